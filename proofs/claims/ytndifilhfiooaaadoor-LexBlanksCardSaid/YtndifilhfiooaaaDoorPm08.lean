/- lex (layer 6): tokens: the iterator. A range over a function that tells a list which is known, and whose rounds are each gone through to their end: of each round it is known that its element is the list's next one. No program in it. A region that draws its order, in a round of a range over a function: the walk of the plain calculus serves. No program in it. Regions in a round of a range over a function, walked by the plain calculus; rows of a call's own beside what it lists. No program in it. lex (layer 6): all words of a text. lex (layer 6): the reference's word at a place. lex (layer 6): the reference's word behind the blanks. lex (layer 6): the document's examples; LexNext. lex (layer 6): Next; LexNext. The tables of unicode/utf8, out of a row's list; LexNext for its frame. -/
import Derived.Shelf.Abstract
import Derived.Shelf.RegionOpen
import Derived.RangeFuncBound
import Derived.RangeFuncCalls
import Derived.RangeFuncLeaves
import Derived.OwnWalkIn
import Derived.TacticsInMore
import Derived.LoopNIn
import Derived.LoopIn
import Derived.RangeFuncFrom
import Derived.OrdersIn
import Derived.RangeFuncBox
import Derived.Lib.QuietBelow
import Derived.Sort.BigQuietIn
import Derived.Lib.LaidU8
import Derived.PinnedBridge
import Derived.LaidSub
import Derived.Test.YtndifilhfiooaaaDoorPm07
import Derived.Test.YtndifilhfiooaaaDoorPm01
import Derived.Test.YtndifilhfiooaaaDoorPm04
import Derived.Test.YtndifilhfiooaaaDoorPm05
namespace Go.Proofs.YtndifilhfiooaaaDoor
set_option maxRecDepth 20000
set_option linter.unusedSimpArgs false
set_option linter.unusedVariables false
open Go.RowKit Go.Lib Go.Shelf Go.Sort
attribute [local go_sem] Oper.semAt_some
section
variable {P : Program} {w w0 : World} {ops : Array Oper} {Q : Exit → Act → World → Prop} {o : Oper} {rest : List Oper} {A : Act}
theorem lw_val {v : Value} (h : (execOp A.eval o).run P w = .ok (.value v) w) (hgd : Region.wanted o (yielded ops A.tmps) = true) (hr : wpList P ops Q rest (A.put o.dst v) w) : wpList P ops Q (o :: rest) A w := by
  refine wpList_step fun K hK => ?_
  rw [if_pos hgd]
  unfold Oper.wp
  rw [h]
  exact hK _ _ hr
end
theorem cellStr : CellTy Tryd.prog 9 := ⟨⟨_, Tryd.underlying9, rfl⟩, by kernel_rfl⟩
theorem cellInt : CellTy Tryd.prog 3 := ⟨⟨_, Tryd.underlying3, rfl⟩, by kernel_rfl⟩
abbrev g3 : Nat := Tryd.lays197_ren.g 3
abbrev g4 : Nat := Tryd.lays197_ren.g 4
theorem tabs_blocks {A B : World} (h : Tabs A) (h3 : B.heap[g3]? = A.heap[g3]?) (h4 : B.heap[g4]? = A.heap[g4]?) : Tabs B := by
  refine ⟨fun c hc => ?_, fun i hi => ⟨?_, ?_⟩⟩
  · rw [World.cell?_of_block h3]; exact h.1 c hc
  · rw [World.cell?_of_block h4]; exact (h.2 i hi).1
  · rw [World.cell?_of_block h4]; exact (h.2 i hi).2
/-- What the iterator holds between rounds. -/
structure ItS (t : ByteArray) (Bs bk m n : Nat) (Fr : World → Nat → Prop) (W : World) : Prop where
  tabs : Tabs W
  f3 : Fr W g3
  f4 : Fr W g4
  txt : W.heap[Bs]? = some (.cells #[.string t] 9 (0, 0))
  fb : Fr W Bs
  bkk : W.heap[bk]? = some (.cells #[.map (some m), .map (some n)] BookT (0, 0))
  fk : Fr W bk
  books : Books m n W
  fm : Fr W m
  fn : Fr W n
theorem ItS.up {t : ByteArray} {Bs bk m n : Nat} {Fr : World → Nat → Prop} {Inv : World → Prop} {A B : World} (h : ItS t Bs bk m n Fr A) (hF : FrUp Inv Fr) (hI : Inv A) (hb : Below A.heap.size A B) : ItS t Bs bk m n Fr B := by
  have h2 := tabs_size h.tabs
  have lt : ∀ {k ob}, A.heap[k]? = some ob → k < A.heap.size := fun h => (Array.getElem?_eq_some_iff.1 h).1
  exact ⟨tabs_low h2 h.tabs hb, hF A B _ hI hb fun _ => h.f3, hF A B _ hI hb fun _ => h.f4, (hb.block _ (lt h.txt)).trans h.txt, hF A B _ hI hb fun _ => h.fb, (hb.block _ (lt h.bkk)).trans h.bkk, hF A B _ hI hb fun _ => h.fk,
    h.books.keep (hb.block _ (lt h.books.1)) (hb.block _ (lt h.books.2)), hF A B _ hI hb fun _ => h.fm, hF A B _ hI hb fun _ => h.fn⟩
theorem ItS.kp {t : ByteArray} {Bs bk m n : Nat} {Fr : World → Nat → Prop} {A B : World} (h : ItS t Bs bk m n Fr A) (hk : KpF Fr A B) : ItS t Bs bk m n Fr B := by
  obtain ⟨z3, z4⟩ := tabs_size h.tabs
  have e3 := hk.2 g3 _ (Array.getElem?_eq_getElem z3) h.f3
  have e4 := hk.2 g4 _ (Array.getElem?_eq_getElem z4) h.f4
  have e1 := hk.2 _ _ h.txt h.fb
  have e2 := hk.2 _ _ h.bkk h.fk
  have e5 := hk.2 _ _ h.books.1 h.fm
  have e6 := hk.2 _ _ h.books.2 h.fn
  exact ⟨tabs_blocks h.tabs (e3.1.trans (Array.getElem?_eq_getElem z3).symm) (e4.1.trans (Array.getElem?_eq_getElem z4).symm), e3.2, e4.2, e1.1, e1.2, e2.1, e2.2, ⟨e5.1, e6.1⟩, e5.2, e6.2⟩
abbrev encT (x : Tok × Nat) : Array Value := #[.agg (tokA x.1), .int .i64 (x.2 : Int)]
set_option maxRecDepth 100000 in
set_option maxHeartbeats 8000000 in
theorem tok1_x (nd : Nat) (hn : 1 ≤ nd) (t : ByteArray) (ht : t.size ≤ 100000) (Bs : Nat) (Inv : World → Prop) (Fr : World → Nat → Prop) (hF : FrUp Inv Fr) (w : World) (hBs : w.heap[Bs]? = some (.cells #[.string t] 9 (0, 0))) (hT : Tabs w)
    (hFr : ∀ W, Below w.heap.size w W → Inv W → Fr W Bs ∧ Fr W g3 ∧ Fr W g4) :
    SeqX Fence.wide nd Tryd.prog 28 #[.pointer (some ⟨Bs, 0, none⟩)] encT Inv (KpF Fr) (els t 0) w := fun l J Jx W hW hJ hJx hJI hY h0 => by
  obtain ⟨fBs, f3, f4⟩ := hFr W hW (hJI _ _ h0)
  have tW := tabs_low (tabs_size hT) hT hW
  have bW := (hW.block Bs (Array.getElem?_eq_some_iff.1 hBs).1).trans hBs
  have iW := hJI _ _ h0
  have hJb : ∀ pre A B, J pre A → Below A.heap.size A B → J pre B := fun pre A B h hb => hJ pre A B none h (below_none hb) (fun r e => by cases e)
  clear hFr hBs hT hJ
  refine callsIn_of_wp Tryd.func28 rfl trivial (wpIn_wide.2 ?_) rfl
  simp only [Tryd.ntmps28, List.size_toArray, List.length_cons, List.length_nil, Nat.reduceAdd, Nat.reduceSub, Array.replicate_succ, Array.replicate_zero, List.push_toArray, List.append_toArray, List.nil_append, List.cons_append]
  go_upto_region 0 with fail
  refine wp_region_lit ?_
  refine wl_callE (args := #[]) (fun V => run_call_fn V (enters_of Tryd.func13 (by kernel_rfl) rfl) rfl (by simp [Act.eval])) (book_any W) rfl ?_
  rintro e V1 ⟨m, n, rfl, hB, hm, hn2, hb1⟩
  refine ⟨_, rfl, ?_⟩
  simp only [nm0, nm1, nm2, nm3]
  have hM1 := Mem.start V1
  refine wl_new hM1 (f := fun b => .pointer (some ⟨b, 0, none⟩)) (fun W => run_alloc_of rfl (al_Book W)) rfl fun bk V2 hM2 => ?_
  simp only [nm0, nm1, nm2, nm3]
  refine wl_set hM2 0 (cs := #[.map (some m), .map (some n)]) rfl rfl rfl rfl rowBook rfl (by simp [Value.oneCell']) rfl rfl fun V3 hM3 => ?_
  simp only [nm2, nm3] at hM3
  refine wpList_nil ?_
  have hb3 : Below W.heap.size W V3 := hb1.trans (hM3.below.mono hb1.size)
  have hbk := hM3.get 0 rfl
  have hbl := hM3.low _ (List.mem_of_getElem? (i := 0) rfl)
  simp only at hbl
  have lt : ∀ {k ob}, W.heap[k]? = some ob → k < W.heap.size := fun h => (Array.getElem?_eq_some_iff.1 h).1
  have hz1 := hb1.size
  have HI : ItS t Bs bk m n Fr V3 :=
    ⟨tabs_low (tabs_size tW) tW hb3, hF W V3 _ iW hb3 fun _ => f3, hF W V3 _ iW hb3 fun _ => f4, (hb3.block _ (lt bW)).trans bW, hF W V3 _ iW hb3 fun _ => fBs, hbk, hF W V3 _ iW hb3 fun h => by omega,
      hB.keep (hM3.below.block _ hB.lt.1) (hM3.below.block _ hB.lt.2), hF W V3 _ iW hb3 fun h => by omega, hF W V3 _ iW hb3 fun h => by omega⟩
  have hJ3 := hJb [] W V3 h0 hb3
  clear hM1 hM2 hM3 hB hb1 hb3 hbk hbl hz1 lt hm hn2 tW bW iW f3 f4 fBs h0
  go_wp2_with fail
  go_loopw [4] (fun p wr => ∃ (pre : List (Tok × Nat)) (a : Nat), p = .int .i64 (a : Int) ∧ a ≤ t.size ∧ els t 0 = pre ++ els t a ∧ J pre wr ∧ ItS t Bs bk m n Fr wr)
    (fun p _ => t.size - (Go.RowKit.intOf p).toNat)
  case atStart => exact ⟨[], 0, rfl, by omega, rfl, hJ3, HI⟩
  case round =>
    obtain ⟨pre, a, rfl, ha, hx, hJs, hS⟩ := hrel
    have iS := hJI _ _ hJs
    obtain ⟨X, E, hX⟩ : ∃ X E, wordT t (blk t a) = (X, E) := ⟨_, _, rfl⟩
    have hM0 := Mem.start wr
    have KN := lnext_any t a m n wr hS.books ht ha hS.tabs
    rw [hX] at KN
    go_upto_region 2 with fail
    refine wp_region_lit ?_
    refine wl_far hS.bkk (v := .agg #[.map (some m), .map (some n)]) (sub := #[.map (some m), .map (some n)]) rfl rfl rfl rfl rowBook rfl ?_
    simp only [nm0, nm1, nm2, nm3]
    refine lw_val (v := .string t) (run_load_cell rfl rfl hS.txt rfl cellStr) rfl ?_
    simp only [nm0, nm1, nm2, nm3]
    refine wl_pure (v := .int .i64 (a : Int)) (fun W => rfl) rfl ?_
    simp only [nm0, nm1, nm2, nm3]
    refine wl_call hM0 (args := #[.agg #[.map (some m), .map (some n)], .string t, .int .i64 (a : Int)]) (v := .tuple #[.agg (tokA X), .int .i64 (E : Int)]) (fun W => run_call_fn W (enters_of Tryd.func14 (by kernel_rfl) rfl) rfl (by simp [Act.eval])) KN rfl fun V1 hM1 => ?_
    simp only [nm0, nm1, nm2, nm3]
    refine wl_pure (v := .tuple #[.agg (tokA X), .int .i64 (E : Int)]) (fun W => rfl) rfl ?_
    simp only [nm0, nm1, nm2, nm3]
    refine wl_pure (v := .agg (tokA X)) (fun W => rfl) rfl ?_
    simp only [nm0, nm1, nm2, nm3]
    refine wl_pure (v := .int .i64 (E : Int)) (fun W => rfl) rfl ?_
    simp only [nm0, nm1, nm2, nm3]
    refine wl_new hM1 (f := fun b => .pointer (some ⟨b, 0, none⟩)) (fun W => run_alloc_of rfl (al_Tok W)) rfl fun p V2 hM2 => ?_
    simp only [nm0, nm1, nm2, nm3]
    refine wl_set hM2 0 (cs := tokA X) rfl rfl rfl rfl rowTok rfl (by simp [tokA, Value.oneCell']) rfl rfl fun V3 hM3 => ?_
    simp only [nm2, nm3] at hM3
    refine wl_pure (v := .int .i64 (E : Int)) (fun W => rfl) rfl ?_
    simp only [nm0, nm1, nm2, nm3]
    refine wpList_nil ?_
    have hpb := hM3.get 0 rfl
    have hpl := hM3.low _ (List.mem_of_getElem? (i := 0) rfl)
    simp only at hpl
    have hbe := hM3.below
    have hS3 := hS.up hF iS hbe
    have hJ3 := hJb pre wr V3 hJs hbe
    have hFp : Fr V3 p := hF wr V3 p iS hbe fun h => by omega
    clear hM0 hM1 hM2 hM3 hbe hS hJs iS KN HI
    have x0 := blk_cell hpb (i := 0) (v := .int .i64 (X.kind : Int)) rfl
    have x1 := blk_cell hpb (i := 1) (v := .int .i64 (X.fr : Int)) rfl
    have x2 := blk_cell hpb (i := 2) (v := .int .i64 (X.til : Int)) rfl
    have x3 := blk_cell hpb (i := 3) (v := .int .i64 X.n) rfl
    have x4 := blk_cell hpb (i := 4) (v := .string ⟨X.s.toArray⟩) rfl
    have hXa : tokA X = #[.int .i64 (X.kind : Int), .int .i64 (X.fr : Int), .int .i64 (X.til : Int), .int .i64 X.n, .string ⟨X.s.toArray⟩] := rfl
    have HPB := Lib.hid hpb
    have HFP := Lib.hid hFp
    have HS3 := Lib.hid hS3
    have HY := Lib.hid hY
    have HJB := Lib.hid hJb
    go_upto_region 3 with fail
    refine (wpIn_wide (n := nd)).1 ?_
    by_cases hE : E = 0
    · by_cases hK : X.kind = 12
      · skip
        have hfin : els t 0 = pre ++ [(X, E)] := by rw [hx, els_last (.inr (by rw [hX]; exact hK)), hX]
        have hpre : pre ++ [(X, E)] <+: els t 0 := by rw [hfin]; exact List.prefix_refl _
        obtain ⟨fn, tmps, assign, body, hy, hR⟩ := HY.out pre (X, E) V3 hJ3 hpre
        dsimp only [encT] at hy
        rw [hXa] at hy
        have HPRE := Lib.hid hpre
        
        have HFIN := Lib.hid hfin
        have HK := Lib.hid hK
        subst hE
        rw [show ((0 : Nat) : Int) = 0 from rfl] at hy
        clear hX hx hfin hpre hJ3 hS3 hpb hFp hY hJb hK
        gi_wp2
        refine hR.mono ?_
        rintro e W3 (⟨rfl, hJ4, hk4⟩ | ⟨rfl, hJx4, -⟩)
        · have y0 := blk_cell (hk4.2 p _ HPB.out HFP.out).1 (i := 0) (v := .int .i64 12) (by rw [hXa, HK.out]; rfl)
          gi_wp2
          go_wp2_with fail
          refine bodyPost_ret (results_none rfl _ _ _) rfl ?_
          exact ⟨⟨_, rfl⟩, .inl (by rw [HFIN.out]; exact hJ4)⟩
        · gi_wp2
          go_wp2_with fail
          refine bodyPost_ret (results_none rfl _ _ _) rfl ?_
          exact ⟨⟨_, rfl⟩, .inr ⟨pre, _, HPRE.out, hJx4⟩⟩
      · skip
        have hmore := els_more ha (by rw [hX]; exact hE) (by rw [hX]; exact hK)
        rw [hX] at hmore
        obtain ⟨hm1, hm2, hm3⟩ := hmore
        simp only at hm1 hm2 hm3
        have hfin : els t 0 = (pre ++ [(X, E)]) ++ els t X.til := by rw [hx, hm1]; simp
        have hpre : pre ++ [(X, E)] <+: els t 0 := by rw [hfin]; exact List.prefix_append _ _
        obtain ⟨fn, tmps, assign, body, hy, hR⟩ := HY.out pre (X, E) V3 hJ3 hpre
        dsimp only [encT] at hy
        rw [hXa] at hy
        have HPRE := Lib.hid hpre
        
        have HFIN := Lib.hid hfin
        have HM := Lib.hid (And.intro hm2 hm3)
        have q12 : ((X.kind : Int) == 12) = false := by simp; omega
        subst hE
        rw [show ((0 : Nat) : Int) = 0 from rfl] at hy
        clear hX hx hfin hpre hJ3 hS3 hpb hFp hY hJb hK hm1 hm2 hm3
        gi_wp2
        refine hR.mono ?_
        rintro e W3 (⟨rfl, hJ4, hk4⟩ | ⟨rfl, hJx4, -⟩)
        · have hb4 := (hk4.2 p _ HPB.out HFP.out).1
          have y0 := blk_cell hb4 (i := 0) (v := .int .i64 (X.kind : Int)) rfl
          have y2 := blk_cell hb4 (i := 2) (v := .int .i64 (X.til : Int)) rfl
          have HS4 := Lib.hid (HS3.out.kp hk4)
          clear hb4
          gi_wp2
          go_wp2_with fail
          go_roundw
          case rel => exact ⟨pre ++ [(X, 0)], X.til, rfl, HM.out.2, HFIN.out, hJ4, HS4.out⟩
          case measure =>
            have := HM.out
            simp [Go.RowKit.intOf]
            omega
        · gi_wp2
          go_wp2_with fail
          refine bodyPost_ret (results_none rfl _ _ _) rfl ?_
          exact ⟨⟨_, rfl⟩, .inr ⟨pre, _, HPRE.out, hJx4⟩⟩
    · skip
      have hfin : els t 0 = pre ++ [(X, E)] := by rw [hx, els_last (.inl (by rw [hX]; exact hE)), hX]
      have hpre : pre ++ [(X, E)] <+: els t 0 := by rw [hfin]; exact List.prefix_refl _
      obtain ⟨fn, tmps, assign, body, hy, hR⟩ := HY.out pre (X, E) V3 hJ3 hpre
      dsimp only [encT] at hy
      rw [hXa] at hy
      have HPRE := Lib.hid hpre
      
      have HFIN := Lib.hid hfin
      have q0 : ((E : Int) == 0) = false := by simp; omega
      have q1 : ¬ (E : Int) = 0 := by omega
      have q2 : ((E : Int) != 0) = true := by simp; omega
      have q3 : (E : Int) ≠ 0 := by omega
      clear hX hx hfin hpre hJ3 hS3 hpb hFp hY hJb hE
      gi_wp2
      refine hR.mono ?_
      rintro e W3 (⟨rfl, hJ4, hk4⟩ | ⟨rfl, hJx4, -⟩)
      · gi_wp2
        go_wp2_with fail
        refine bodyPost_ret (results_none rfl _ _ _) rfl ?_
        exact ⟨⟨_, rfl⟩, .inl (by rw [HFIN.out]; exact hJ4)⟩
      · gi_wp2
        go_wp2_with fail
        refine bodyPost_ret (results_none rfl _ _ _) rfl ?_
        exact ⟨⟨_, rfl⟩, .inr ⟨pre, _, HPRE.out, hJx4⟩⟩
theorem tokens_any (s : ByteArray) (w : World) : Calls Tryd.prog 19 #[.string s] w fun e w' => e = .returned (.func (.func 28) #[] #[.pointer (some ⟨w.heap.size, 0, none⟩)]) ∧ w' = w.alloc (.cells #[.string s] 9) := by
  go_enter Tryd.func19, Tryd.ntmps19
  go_wp2_with fail
  go_ret
  exact ⟨rfl, rfl⟩
end Go.Proofs.YtndifilhfiooaaaDoor
namespace Go.Proofs.YtndifilhfiooaaaDoor
set_option maxRecDepth 20000
set_option linter.unusedSimpArgs false
set_option linter.unusedVariables false
open Go.RowKit
variable {F : Fence} {n : Nat} {P : Program}
end Go.Proofs.YtndifilhfiooaaaDoor
namespace Go.Proofs.YtndifilhfiooaaaDoor
set_option maxRecDepth 20000
set_option linter.unusedSimpArgs false
set_option linter.unusedVariables false
open Go.RowKit Go.Sort
section
variable {P : Program} {ops : Array Oper} {Q : Exit → Act → World → Prop} {l n : Nat}
end
end Go.Proofs.YtndifilhfiooaaaDoor
namespace Go.Proofs.YtndifilhfiooaaaDoor
set_option maxRecDepth 20000
set_option linter.unusedSimpArgs false
set_option linter.unusedVariables false
open Go.RowKit Go.Sort
section
variable {P : Program} {ops : Array Oper} {Q : Exit → Act → World → Prop} {l n : Nat}
end
section
variable {P : Program} {w w' : World} {ops : Array Oper} {Q : Exit → Act → World → Prop} {o : Oper} {rest : List Oper} {A : Act}
theorem lw_skipW (h : (execOp A.eval o).run P w = .ok .skip w') (hgd : Region.wanted o (yielded ops A.tmps) = true) (hd : o.dst = none) (hr : wpList P ops Q rest A w') : wpList P ops Q (o :: rest) A w := by
  refine wpList_step fun K hK => ?_
  rw [if_pos hgd]
  unfold Oper.wp
  rw [h]
  show K (A.put o.dst undef) w'
  rw [hd]
  exact hK _ _ hr
end
section
variable {F : Fence} {n : Nat} {P : Program} {ops : Array Oper} {Q : Exit → Act → World → Prop} {o : Oper} {rest : List Oper} {A : Act} {w w' : World}
theorem wi_val {v : Value} (hF : ∀ f, F.fn f) (hnd : ∀ c, o.op ≠ .defer c) (h : (execOp A.eval o).run P w = .ok (.value v) w') (hgd : o.guard = none) (hr : wpListIn F n P ops Q rest (A.put o.dst v) w') : wpListIn F n P ops Q (o :: rest) A w := by
  refine wpListIn_plain hgd ?_
  intro K hK
  refine ⟨fun f _ => hF f, ?_⟩
  rw [Oper.semAt_eq _ _ _ hnd, h]
  exact hK _ _ hr
theorem wi_skip (hF : ∀ f, F.fn f) (hnd : ∀ c, o.op ≠ .defer c) (h : (execOp A.eval o).run P w = .ok .skip w') (hgd : o.guard = none) (hd : o.dst = none) (hr : wpListIn F n P ops Q rest A w') : wpListIn F n P ops Q (o :: rest) A w := by
  refine wpListIn_plain hgd ?_
  intro K hK
  refine ⟨fun f _ => hF f, ?_⟩
  rw [Oper.semAt_eq _ _ _ hnd, h]
  show K (A.put o.dst undef) w'
  rw [hd]
  exact hK _ _ hr
theorem wpIn_fr {c : Code} {t t' : Array Value} {W : World} (e : t = t') (h : c.wpIn F n P Q { tmps := t', defers := [] } W) : c.wpIn F n P Q { tmps := t, defers := [] } W := by
  rw [e]; exact h
theorem run_store_whole {ty : TypeId} {x y : Operand} {b : Nat} {t : TypeId} {old cs : Array Value} (hg : w.heap[b]? = some (.cells old t (0, 0))) (ho : o.op = .store ty x y) (hx : A.eval x = .pointer (some ⟨b, 0, none⟩)) (hy : A.eval y = .agg cs) (hT : RowTy P ty cs.size) (hs : old.size = cs.size) (h1 : cs.all (·.oneCell') = true) : (execOp A.eval o).run P w = .ok .skip (w.setRow b cs) := by
  have h := run_store_part (P := P) (off := 0) (sub := cs) hg (by omega) hT.2 h1
  have e : (old.toList.take 0 ++ cs.toList ++ old.toList.drop (0 + cs.size)).toArray = cs := by
    rw [List.take_zero, List.nil_append, Nat.zero_add, ← hs, List.drop_eq_nil_of_le (by simp), List.append_nil, Array.toArray_toList]
  rw [e] at h
  unfold execOp
  simp only [ho, hx, hy, Instr.storeAt, Instr.sureAddr, Sem.run_bind, Sem.run_pure, Result.andThen_ok, h]
end
theorem setRow_keeps (W : World) (b B : Nat) (cs : Array Value) (h : b < B) : KeepsFrom B W (W.setRow b cs) :=
  ⟨by simp, fun k o hk hg _ => by rw [setRow_other W b k cs (by omega)]; exact hg⟩
theorem below_keeps {W W' : World} (h : Below W.heap.size W W') (B : Nat) : KeepsFrom B W W' :=
  ⟨h.size, fun k o _ hg _ => (h.block k (Array.getElem?_eq_some_iff.1 hg).1).trans hg⟩
/-- A list's element and all ahead of it. -/
theorem pre_mem {α : Type} {L pre : List α} {x : α} (h : pre ++ [x] <+: L) : ∃ r, L = pre ++ x :: r := by
  obtain ⟨r, rfl⟩ := h
  exact ⟨r, by simp⟩
theorem run_store_one {P : Program} {w : World} {o : Oper} {A : Act} {ty : TypeId} {x y : Operand} {b : Nat} {t : TypeId} {u v : Value} (hg : w.heap[b]? = some (.cells #[u] t (0, 0))) (ho : o.op = .store ty x y) (hx : A.eval x = .pointer (some ⟨b, 0, none⟩)) (hy : A.eval y = v) (hT : CellTy P ty) (h1 : v.oneCell' = true) : (execOp A.eval o).run P w = .ok .skip (w.setRow b #[v]) := by
  have h := run_store_at (P := P) (off := 0) (v := v) hg (by simp) hT h1
  unfold execOp
  simp only [ho, hx, hy, Instr.storeAt, Instr.sureAddr, Sem.run_bind, Sem.run_pure, Result.andThen_ok, h]
  rfl
/-- append onto a slice of the call's own, as it is run. -/
theorem run_app_of {P : Program} {w : World} {o : Oper} {A : Act} {s x : Operand} {t : TypeId} (ho : o.op = .call { callee := .builtin .append, args := #[s, x], argTypes := #[t, t] }) {u a v' : Value} {w' : World} (hs : A.eval s = u) (hx : A.eval x = a) (h : (Builtin.append_ #[t, t] o.type #[u, a]).run P w = .ok v' w') : (execOp A.eval o).run P w = .ok (.value v') w' := by
  unfold execOp
  simp only [ho, resolve, invoke, builtin, Sem.run_bind, Sem.run_pure, Result.andThen_ok, List.map_toArray, List.map_cons, List.map_nil, hs, hx, h]
section
variable {w0 w w' : World} {M : List Blk}
theorem mem_grown {row : Option Nat} (h : Mem w0 M w) (hg : w.grownBy w' row) (hr : ∀ g, row = some g → w0.heap.size ≤ g ∧ ∀ p ∈ M, p.1 ≠ g) : Mem w0 M w' := by
  refine ⟨⟨hg.os.trans h.below.os, hg.tape.trans h.below.tape, hg.output.trans h.below.output, Nat.le_trans h.below.size hg.size, fun k hk => ?_⟩, h.low, h.nod, fun p hp => ?_⟩
  · exact (hg.block k (Nat.lt_of_lt_of_le hk h.below.size) (fun e => by have := (hr k e.symm).1; omega)).trans (h.below.block k hk)
  · exact (hg.block p.1 (h.lt hp) (fun e => (hr _ e.symm).2 p hp rfl)).trans (h.at_ p hp)
/-- What is listed, all of it cells, stays while blocks of other kinds are turned. -/
theorem mem_own {row : Option Nat} {D : Nat} (h : Mem w0 M w) (hc : ∀ p ∈ M, p.2.isCells = true) (hD : w0.heap.size ≤ D) (hg : w.grownBy w' row) (hr : ∀ r, row = some r → D ≤ r ∧ ∃ o : Obj, w.heap[r]? = some o ∧ o.isCells = false) : Mem w0 M w' :=
  mem_grown h hg fun g e => by
    obtain ⟨h1, o, h2, h3⟩ := hr g e
    refine ⟨by omega, fun p hp e => ?_⟩
    subst e
    rw [h.at_ p hp] at h2
    cases h2
    rw [hc p hp] at h3
    cases h3
theorem cells_own {row : Option Nat} {k : Nat} {cs : Array Value} {T : TypeId} {fr : Nat × Nat} (h : w.heap[k]? = some (.cells cs T fr)) (hg : w.grownBy w' row) (hr : ∀ r, row = some r → ∃ o : Obj, w.heap[r]? = some o ∧ o.isCells = false) : w'.heap[k]? = some (.cells cs T fr) :=
  (hg.block k (Array.getElem?_eq_some_iff.1 h).1 (fun e => by
    obtain ⟨o, h2, h3⟩ := hr k e.symm
    rw [h] at h2
    cases h2
    cases h3)).trans h
theorem owns_own {row : Option Nat} {D sz n : Nat} {e : TypeId} {v : Value} {xs : List Value} (h : w.ownsRow D e sz v n xs) (hg : w.grownBy w' row) (hr : ∀ r, row = some r → ∃ o : Obj, w.heap[r]? = some o ∧ o.isCells = false) : w'.ownsRow D e sz v n xs := by
  obtain ⟨hl, h⟩ := h
  refine ⟨hl, ?_⟩
  rcases h with h | ⟨g, cap, cur, h1, h2, h3, h4, h5, h6, h7⟩
  · exact .inl h
  · exact .inr ⟨g, cap, cur, h1, h2, cells_own h3 hg hr, h4, h5, h6, h7⟩
theorem owns_setRow {D sz n c : Nat} {e : TypeId} {v : Value} {xs : List Value} {cs : Array Value} (h : w.ownsRow D e sz v n xs) (hc : c < D) : (w.setRow c cs).ownsRow D e sz v n xs := by
  obtain ⟨hl, h⟩ := h
  refine ⟨hl, ?_⟩
  rcases h with h | ⟨g, cap, cur, h1, h2, h3, h4, h5, h6, h7⟩
  · exact .inl h
  · exact .inr ⟨g, cap, cur, h1, h2, by rw [setRow_other _ _ _ _ (by omega)]; exact h3, h4, h5, h6, h7⟩
theorem owns_below {D sz n B : Nat} {e : TypeId} {v : Value} {xs : List Value} (h : w.ownsRow D e sz v n xs) (hb : Below w.heap.size w w') (hB : B ≤ D) : w'.ownsRow B e sz v n xs := by
  obtain ⟨hl, h⟩ := h
  refine ⟨hl, ?_⟩
  rcases h with h | ⟨g, cap, cur, h1, h2, h3, h4, h5, h6, h7⟩
  · exact .inl h
  · exact .inr ⟨g, cap, cur, h1, by omega, (hb.block g (Array.getElem?_eq_some_iff.1 h3).1).trans h3, h4, h5, h6, h7⟩
/-- Where a slice's row lies. -/
theorem owns_lt {D sz n g : Nat} {e : TypeId} {v : Value} {xs : List Value} (h : w.ownsRow D e sz v n xs) (hv : v.ownBlock = some g) : D ≤ g ∧ g < w.heap.size ∧ ∃ cs, w.heap[g]? = some (.cells cs e (0, 0)) := by
  obtain ⟨hl, h⟩ := h
  rcases h with h | ⟨g', cap, cur, rfl, h2, h3, h4, h5, h6, h7⟩
  · obtain ⟨rfl, rfl⟩ | ⟨rfl, -⟩ := Or.inl (b := v = .slice none 0 0 ∧ True) h
    · cases hv
    · cases hv
  · have e : g' = g := by simpa [Value.ownBlock] using hv
    subst e
    exact ⟨h2, (Array.getElem?_eq_some_iff.1 h3).1, cur, h3⟩
end
/-- Where the row of the slice that a block holds lies. -/
def rowOf (c : Nat) (W : World) : Option Nat := (W.cell? ⟨c, 0, none⟩).bind Value.ownBlock
theorem rowOf_of {c : Nat} {W : World} {v : Value} {T : TypeId} (h : W.heap[c]? = some (.cells #[v] T (0, 0))) : rowOf c W = v.ownBlock := by
  unfold rowOf
  rw [show W.cell? ⟨c, 0, none⟩ = some v by rw [cell_of_row W c 0 #[v] T (0, 0) h]; rfl]
  rfl
theorem rowOf_same {c : Nat} {A B : World} (h : B.heap[c]? = A.heap[c]?) : rowOf c B = rowOf c A := by
  unfold rowOf
  rw [World.cell?_of_block h]
/-- A block that ranges over its own slice: what is not its own. -/
def FrC (c D : Nat) (W : World) (k : Nat) : Prop := k ≠ c ∧ k ≠ D + 1 ∧ rowOf c W ≠ some k
def InvC (c D : Nat) (W : World) : Prop := c < W.heap.size ∧ D + 1 < W.heap.size ∧ ∀ k, rowOf c W = some k → k < W.heap.size
theorem frC_up (c D : Nat) : FrUp (InvC c D) (FrC c D) := fun A B k ⟨i1, i2, i3⟩ hb hk => by
  have e : rowOf c B = rowOf c A := rowOf_same (hb.block c i1)
  unfold FrC
  rw [e]
  rcases Nat.lt_or_ge k A.heap.size with h | h
  · exact hk h
  · exact ⟨by omega, by omega, fun h2 => by have := i3 k h2; omega⟩
theorem kpF_loop {c D : Nat} (hc : c ≠ D + 1) (W : World) (r r' : Loop) (h : W.heap[D + 1]? = some (.loop r)) : KpF (FrC c D) W (W.putObj (D + 1) (.loop r')) := by
  refine ⟨(grownBy_putObj' W (D + 1) _).size, fun k ob hk hf => ?_⟩
  have e : rowOf c (W.putObj (D + 1) (.loop r')) = rowOf c W := rowOf_same (World.putObj_heap_other hc)
  refine ⟨(World.putObj_heap_other hf.2.1).trans hk, hf.1, hf.2.1, ?_⟩
  rw [e]
  exact hf.2.2
theorem kpF_below {c D : Nat} {W W' : World} (hc : c < W.heap.size) (hb : Below W.heap.size W W') : KpF (FrC c D) W W' := by
  refine ⟨hb.size, fun k ob hk hf => ⟨(hb.block k (Array.getElem?_eq_some_iff.1 hk).1).trans hk, hf.1, hf.2.1, ?_⟩⟩
  rw [rowOf_same (hb.block c hc)]
  exact hf.2.2
theorem owns_one {w : World} {D sz n : Nat} {e : TypeId} {v : Value} {xs : List Value} (h : w.ownsRow D e sz v n xs) : v.oneCell' = true := by
  obtain ⟨hl, h⟩ := h
  rcases h with h | ⟨g, cap, cur, rfl, -⟩
  · obtain ⟨rfl, -⟩ | h := Or.inl (b := False) h
    · rfl
    · cases h
  · rfl
theorem info_partsT {i : Option TypeInfo} {z : Value} {s b : Nat} (h : i.map (fun i => (i.zero, i.size, i.bytes)) = some (some z, s, b)) : ∃ i0, i = some i0 ∧ i0.zero = some z ∧ i0.size = s ∧ i0.bytes = b := by
  cases i with
  | none => cases h
  | some i0 =>
    simp only [Option.map_some, Option.some.injEq, Prod.mk.injEq] at h
    exact ⟨i0, rfl, h.1, h.2.1, h.2.2⟩
theorem results_ccc {P : Program} {w : World} {fn : Func} {tmps : Array Value} {v1 v2 v3 : Value} {a1 t1 b1 a2 t2 b2 a3 t3 b3 : Nat} (h : fn.results = #[.cell a1 t1, .cell a2 t2, .cell a3 t3]) (h1 : tmps.getD a1 undef = .pointer (some ⟨b1, 0, none⟩)) (h2 : tmps.getD a2 undef = .pointer (some ⟨b2, 0, none⟩)) (h3 : tmps.getD a3 undef = .pointer (some ⟨b3, 0, none⟩))
    (l1 : (loadVar t1 ⟨b1, 0, none⟩).run P w = .ok v1 w) (l2 : (loadVar t2 ⟨b2, 0, none⟩).run P w = .ok v2 w) (l3 : (loadVar t3 ⟨b3, 0, none⟩).run P w = .ok v3 w) : (results fn tmps).run P w = .ok (.tuple #[v1, v2, v3]) w := by
  have g1 : tmps[a1]?.getD undef = .pointer (some ⟨b1, 0, none⟩) := by simpa using h1
  have g2 : tmps[a2]?.getD undef = .pointer (some ⟨b2, 0, none⟩) := by simpa using h2
  have g3 : tmps[a3]?.getD undef = .pointer (some ⟨b3, 0, none⟩) := by simpa using h3
  simp [results, h, g1, g2, g3, asAddr, l1, l2, l3]
theorem setCell_row {w : World} {b : Nat} {u v : Value} {t : TypeId} (h : w.heap[b]? = some (.cells #[u] t (0, 0))) : w.setCell ⟨b, 0, none⟩ v = w.setRow b #[v] := by
  unfold World.setCell World.setRow
  congr 1
  apply Array.ext_getElem?
  intro k
  by_cases e : b = k
  · subst e
    simp [Array.getElem?_modify, h]
  · simp [Array.getElem?_modify, e]
end Go.Proofs.YtndifilhfiooaaaDoor
namespace Go.Proofs.YtndifilhfiooaaaDoor
set_option maxRecDepth 20000
set_option linter.unusedSimpArgs false
set_option linter.unusedVariables false
open Go.RowKit Go.Lib Go.Shelf Go.Sort
attribute [local go_sem] Oper.semAt_some
abbrev SlT : TypeId := 31
def tkV (l : List Tok) : List Value := l.flatMap fun x => (tokA x).toList
theorem tkV_app (l m : List Tok) : tkV (l ++ m) = tkV l ++ tkV m := by simp [tkV]
theorem al_Sl (W : World) : (Instr.alloc SlT true (.tuple #[])).run Tryd.prog W = .ok (.pointer (some ⟨W.heap.size, 0, none⟩)) (W.alloc (.cells #[.slice none 0 0] SlT (0, 0))) := by kernel_rfl
theorem al_Int (W : World) : (Instr.alloc 3 true (.tuple #[])).run Tryd.prog W = .ok (.pointer (some ⟨W.heap.size, 0, none⟩)) (W.alloc (.cells #[.int .i64 0] 3 (0, 0))) := by kernel_rfl
theorem al_Err (W : World) : (Instr.alloc 25 true (.tuple #[])).run Tryd.prog W = .ok (.pointer (some ⟨W.heap.size, 0, none⟩)) (W.alloc (.cells #[.int .i64 0] 25 (0, 0))) := by kernel_rfl
theorem cellSl : CellTy Tryd.prog SlT := ⟨⟨_, Tryd.underlying31, rfl⟩, by kernel_rfl⟩
theorem bs_Tok (X : Tok) (W : World) : (Instr.buildSlice SlT 1 #[(0, .agg (tokA X))]).run Tryd.prog W = .ok (.slice (some ⟨W.heap.size, 0, none⟩) 1 1) (W.alloc (.cells (tokA X) TokT (0, 0))) := by unfold tokA; go_simp
theorem info_Tok : (Tryd.prog.info? TokT).map (fun i => (i.zero, i.size, i.bytes)) = some (some (.agg #[.int .i64 0, .int .i64 0, .int .i64 0, .int .i64 0, .string ByteArray.empty]), 5, 48) := by kernel_rfl
theorem fl_Tok1 (b : Nat) (W : World) : (Instr.fieldAt TokT (.pointer (some ⟨b, 0, none⟩)) 1).run Tryd.prog W = .ok (.pointer (some ⟨b, 1, none⟩)) W := by kernel_rfl
theorem cellErr : CellTy Tryd.prog 25 := ⟨⟨_, Tryd.underlying25, rfl⟩, by kernel_rfl⟩
/-- What Tokens answers of a list. -/
def resT (L : List (Tok × Nat)) : List Tok := if (outT L).2.2 = 0 then (outT L).1 else []
theorem resT_ok {L : List (Tok × Nat)} (h : ∀ y ∈ L, y.2 = 0) : outT L = (L.map Prod.fst, 0, 0) ∧ resT L = L.map Prod.fst := by
  have e := outT_ok L h
  exact ⟨e, by unfold resT; rw [e]; rfl⟩
theorem resT_err {L pre : List (Tok × Nat)} {x : Tok × Nat} (hx : pre ++ [x] <+: L) (hp : ∀ y ∈ pre, y.2 = 0) (hE : x.2 ≠ 0) : outT L = (pre.map Prod.fst, x.1.fr, x.2) ∧ resT L = [] := by
  obtain ⟨r, rfl⟩ := pre_mem hx
  obtain ⟨X, E⟩ := x
  have e := outT_app pre ((X, E) :: r) hp
  have e2 : outT ((X, E) :: r) = ([], X.fr, E) := by
    unfold outT
    rw [if_pos hE]
  rw [e2] at e
  simp only [List.append_nil] at e
  refine ⟨e, ?_⟩
  unfold resT
  rw [e, if_neg hE]
set_option maxRecDepth 100000 in
set_option maxHeartbeats 8000000 in
theorem toks_any (t : ByteArray) (ht : t.size ≤ 100000) (w : World) (hT : Tabs w) :
    Calls Tryd.prog 9 #[.string t] w fun e w' => ∃ v, e = .returned (.tuple #[v, .int .i64 ((outT (els t 0)).2.1 : Int), .int .i64 ((outT (els t 0)).2.2 : Int)]) ∧ w'.ownsRow w.heap.size TokT 5 v (resT (els t 0)).length (tkV (resT (els t 0))) ∧ Below w.heap.size w w' := by
  have h2 := tabs_size hT
  refine (callsIn_wide (n := 3)).1 (callsIn_of_wp_marks Tryd.func9 rfl trivial (wpIn_wide.2 ?_) rfl)
  simp only [Tryd.ntmps9, List.size_toArray, List.length_cons, List.length_nil, Nat.reduceAdd, Nat.reduceSub, Array.replicate_succ, Array.replicate_zero, List.push_toArray, List.append_toArray, List.nil_append, List.cons_append]
  have hM0 := Mem.start w
  go_upto_region 0 with fail
  refine wp_region_lit ?_
  refine wl_new hM0 (f := fun b => .pointer (some ⟨b, 0, none⟩)) (fun W => run_alloc_of rfl (al_Sl W)) rfl fun r2 W1 hM1 => ?_
  simp only [nm0, nm1, nm2, nm3]
  refine wl_new hM1 (f := fun b => .pointer (some ⟨b, 0, none⟩)) (fun W => run_alloc_of rfl (al_Int W)) rfl fun r3 W2 hM2 => ?_
  simp only [nm0, nm1, nm2, nm3]
  refine wl_new hM2 (f := fun b => .pointer (some ⟨b, 0, none⟩)) (fun W => run_alloc_of rfl (al_Err W)) rfl fun r4 W3 hM3 => ?_
  simp only [nm0, nm1, nm2, nm3]
  refine wpList_nil ?_
  go_upto_region 1 with fail
  refine wp_region_lit ?_
  refine wl_new hM3 (f := fun b => .pointer (some ⟨b, 0, none⟩)) (fun W => run_alloc_of rfl (al_Sl W)) rfl fun c W4 hM4 => ?_
  simp only [nm0, nm1, nm2, nm3]
  refine wpList_nil ?_
  go_upto_region 2 with fail
  refine wp_region_lit ?_
  refine wl_pure (v := .string t) (fun W => rfl) rfl ?_
  simp only [nm0, nm1, nm2, nm3]
  refine wl_callE (args := #[.string t]) (fun W => run_call_fn W (enters_of Tryd.func19 (by kernel_rfl) rfl) rfl (by simp [Act.eval])) (tokens_any t W4) rfl ?_
  rintro e W5 ⟨rfl, hW5⟩
  refine ⟨_, rfl, ?_⟩
  have hM5 := hM4.new1 (.cells #[.string t] 9)
  rw [← hW5] at hM5
  obtain ⟨Bs, hBs⟩ : ∃ Bs, W4.heap.size = Bs := ⟨_, rfl⟩
  rw [hBs] at hM5 ⊢
  clear hW5 hBs hM0 hM1 hM2 hM3 hM4
  simp only [nm0, nm1, nm2, nm3]
  refine wpList_nil ?_
  go_wp2_with fail
  refine (wpIn_wide (n := 3)).1 ?_
  obtain ⟨D, hD⟩ : ∃ D, W5.heap.size = D := ⟨_, rfl⟩
  have lB := hM5.low _ (List.mem_of_getElem? (i := 0) rfl)
  have lc := hM5.low _ (List.mem_of_getElem? (i := 1) rfl)
  have l4 := hM5.low _ (List.mem_of_getElem? (i := 2) rfl)
  have l3 := hM5.low _ (List.mem_of_getElem? (i := 3) rfl)
  have l2 := hM5.low _ (List.mem_of_getElem? (i := 4) rfl)
  have uB := hM5.lt (List.mem_of_getElem? (i := 0) rfl)
  have uc := hM5.lt (List.mem_of_getElem? (i := 1) rfl)
  have u4 := hM5.lt (List.mem_of_getElem? (i := 2) rfl)
  have u3 := hM5.lt (List.mem_of_getElem? (i := 3) rfl)
  have u2 := hM5.lt (List.mem_of_getElem? (i := 4) rfl)
  have nBc : Bs ≠ c := by have := (List.pairwise_cons.1 hM5.nod).1 _ (List.mem_of_getElem? (i := 0) rfl); exact this
  simp only at lB lc l4 l3 l2 uB uc u4 u3 u2
  rw [hD] at uB uc u4 u3 u2
  have hT5 := tabs_low h2 hT hM5.below
  have hwD : w.heap.size ≤ D := by rw [← hD]; exact hM5.below.size
  have hrow : ∀ W, Below W5.heap.size W5 W → rowOf c W = none := fun W hb => by
    rw [rowOf_of ((hb.block c (by omega)).trans (hM5.get 1 rfl))]
    rfl
  obtain ⟨MM, hMM⟩ : ∃ MM : Value → Value → Value → List Blk, MM = fun v p4 p3 => [(Bs, .cells #[.string t] 9 (0, 0)), (c, .cells #[v] SlT (0, 0)), (r4, .cells #[p4] 25 (0, 0)), (r3, .cells #[p3] 3 (0, 0)), (r2, .cells #[.slice none 0 0] SlT (0, 0))] := ⟨_, rfl⟩
  have hMc : ∀ v p4 p3, ∀ p ∈ MM v p4 p3, p.2.isCells = true := fun v p4 p3 p hp => by
    rw [hMM] at hp
    simp only [List.mem_cons, List.not_mem_nil, or_false] at hp
    rcases hp with rfl | rfl | rfl | rfl | rfl <;> rfl
  have hMl : ∀ v p4 p3, ∀ p ∈ MM v p4 p3, p.1 < D := fun v p4 p3 p hp => by
    rw [hMM] at hp
    simp only [List.mem_cons, List.not_mem_nil, or_false] at hp
    rcases hp with rfl | rfl | rfl | rfl | rfl <;> assumption
  have hM5' : Mem w (MM (.slice none 0 0) (.int .i64 0) (.int .i64 0)) W5 := by rw [hMM]; exact hM5
  refine wpIn_range_x rfl (by omega) (gf := 28) (lb := #[.pointer (some ⟨Bs, 0, none⟩)]) rfl trivial (enters_of Tryd.func28 (by kernel_rfl) rfl)
    (tok1_x (3 - 1) (by omega) t ht Bs (InvC c D) (FrC c D) (frC_up c D) W5 (hM5.get 0 rfl) hT5 (fun W hb _ => ?hfr)) kpF_t (by rw [hD]; exact kpF_loop (by omega)) (Below.refl _ _) (fun _ => rfl)
    (fun pre W => ((∀ y ∈ pre, y.2 = 0) ∧ D ≤ W.heap.size) ∧ ∃ v, Mem w (MM v (.int .i64 0) (.int .i64 0)) W ∧ W.ownsRow D TokT 5 v pre.length (tkV (pre.map Prod.fst)))
    (fun cd xs W => cd = .ret ∧ ∃ pre x, xs = pre ++ [x] ∧ x.2 ≠ 0 ∧ (∀ y ∈ pre, y.2 = 0) ∧ ∃ v, Mem w (MM v (.int .i64 (x.2 : Int)) (.int .i64 (x.1.fr : Int))) W)
    ?hI ?hIx ?hInv ?h0
    (fun x a' W => ∃ p, a' = { tmps := #[.string t, undef, .pointer (some ⟨r2, 0, none⟩), .pointer (some ⟨r3, 0, none⟩), .pointer (some ⟨r4, 0, none⟩), .pointer (some ⟨c, 0, none⟩), .pointer (some ⟨p, 0, none⟩), .int .i64 (x.2 : Int), .string t, .func (.func 28) #[] #[.pointer (some ⟨Bs, 0, none⟩)], .agg (tokA x.1), .int .i64 (x.2 : Int), undef, undef, undef, undef, undef, undef, undef, undef, undef, undef], defers := [] } ∧ W.heap[p]? = some (tokB x.1) ∧ D ≤ p) ?hAx ?assign ?body ?done ?stop
  case hfr =>
    have hr := hrow W hb
    unfold FrC
    rw [hr]
    exact ⟨⟨nBc, by omega, by simp⟩, ⟨by unfold g3; omega, by unfold g3; omega, by simp⟩, ⟨by unfold g4; omega, by unfold g4; omega, by simp⟩⟩
  case hI =>
    rw [hD]
    rintro pre A B row ⟨h1, v, h3, h4⟩ hg hr
    exact ⟨⟨h1.1, Nat.le_trans h1.2 hg.size⟩, v, mem_own h3 (hMc _ _ _) hwD hg hr, owns_own h4 hg fun r e => (hr r e).2⟩
  case hIx =>
    rw [hD]
    rintro cd xs A B row ⟨h0, pre, x, h1, h3, h4, v, h5⟩ hg hr
    exact ⟨h0, pre, x, h1, h3, h4, v, mem_own h5 (hMc _ _ _) hwD hg hr⟩
  case hInv =>
    rw [hD]
    rintro pre W ⟨-, v, h3, h4⟩ hz
    rw [hMM] at h3
    refine ⟨by omega, hz, fun k hk => ?_⟩
    rw [rowOf_of (h3.get 1 rfl)] at hk
    exact (owns_lt h4 hk).2.1
  case h0 => exact ⟨⟨fun y hy => (by cases hy), by omega⟩, _, hM5', World.ownsRow_nil _ _ _ _⟩
  case hAx =>
    rw [hD]
    rintro x a' u A B row ⟨p, h1, h3, h4⟩ hg hr
    exact ⟨p, h1, cells_own h3 hg fun r e => (hr r e).2, h4⟩
  case assign =>
    intro l pre x W K hI hx hgo
    refine wpIn_fr (t' := #[.string t, undef, .pointer (some ⟨r2, 0, none⟩), .pointer (some ⟨r3, 0, none⟩), .pointer (some ⟨r4, 0, none⟩), .pointer (some ⟨c, 0, none⟩), undef, undef, .string t, .func (.func 28) #[] #[.pointer (some ⟨Bs, 0, none⟩)], .agg (tokA x.1), .int .i64 (x.2 : Int), undef, undef, undef, undef, undef, undef, undef, undef, undef, undef]) (by simp) ?_
    refine wpIn_seq_k fun K2 hK2 => ?_
    refine wpIn_region_lit ?_
    refine wi_val (v := .pointer (some ⟨W.heap.size, 0, none⟩)) (fun _ => trivial) (by simp) (run_alloc_of rfl (al_Tok W)) rfl ?_
    have hM2 := (Mem.start W).new1 (.cells #[.int .i64 0, .int .i64 0, .int .i64 0, .int .i64 0, .string ByteArray.empty] TokT (0, 0))
    refine wi_skip (fun _ => trivial) (by simp) (run_store_whole (cs := tokA x.1) (hM2.get 0 rfl) rfl rfl rfl rowTok rfl (by simp [tokA, Value.oneCell'])) rfl rfl ?_
    have hM3 := hM2.set (cs := tokA x.1) 0 rfl
    refine wpListIn_nil (hK2 _ _ ?_)
    refine wpIn_region_lit ?_
    refine wi_val (v := .int .i64 (x.2 : Int)) (fun _ => trivial) (by simp) rfl rfl ?_
    refine wpListIn_nil ?_
    obtain ⟨h1, v, h3, h4⟩ := hI
    have hb := hM3.below
    have hcW : c < W.heap.size := by rw [hMM] at h3; exact h3.lt (List.mem_of_getElem? (i := 1) rfl)
    exact hgo _ _ (below_keeps hb _) (kpF_below hcW hb) ⟨⟨h1.1, Nat.le_trans h1.2 hb.size⟩, v, h3.calls hb, owns_below h4 hb (Nat.le_refl _)⟩ ⟨W.heap.size, rfl, hM3.get 0 rfl, h1.2⟩
  case body =>
    rw [hD]
    rintro l pre x a' W hl1 hloop ⟨⟨h1, -⟩, v, h3, h4⟩ ⟨p, rfl, hp, hpD⟩ hx
    have hg1 : W.heap[c]? = some (.cells #[v] SlT (0, 0)) := by rw [hMM] at h3; exact h3.get 1 rfl
    have hcW : c < W.heap.size := (Array.getElem?_eq_some_iff.1 hg1).1
    have hDW : D < W.heap.size := by
      obtain ⟨r, hr⟩ := hloop
      have := (Array.getElem?_eq_some_iff.1 hr).1
      omega
    have hpW : p < W.heap.size := (Array.getElem?_eq_some_iff.1 hp).1
    refine wpIn_block ?_
    refine wpIn_seq_k fun K2 hK2 => ?_
    refine wpIn_seq_k fun K3 hK3 => ?_
    refine wpIn_region_lit ?_
    refine wi_val (v := .int .i64 (x.2 : Int)) (fun _ => trivial) (by simp) rfl rfl ?_
    obtain ⟨z, ez⟩ : ∃ z : Bool, z = !((x.2 : Int) == 0) := ⟨_, rfl⟩
    refine wi_val (v := .bool z) (fun _ => trivial) (by simp) (by rw [ez]; rfl) rfl ?_
    refine wpListIn_nil (hK3 _ _ ?_)
    by_cases hE : x.2 = 0
    · have hz : z = false := by rw [ez, hE]; rfl
      subst hz
      refine wpIn_cond_false rfl ?_
      refine wpIn_skip ?_
      refine hK2 _ _ ?_
      refine wpIn_region_lit ?_
      refine wi_val (v := v) (fun _ => trivial) (by simp) (run_load_cell rfl rfl hg1 rfl cellSl) rfl ?_
      refine wi_val (v := .agg (tokA x.1)) (fun _ => trivial) (by simp) (run_load_row rfl rfl hp rowTok) rfl ?_
      refine wi_val (v := .slice (some ⟨W.heap.size, 0, none⟩) 1 1) (fun _ => trivial) (by simp) (run_slice_of (ps := #[(0, .agg (tokA x.1))]) rfl (by simp [Act.eval, Act.put]) (bs_Tok x.1 W)) rfl ?_
      have hb1 : Below W.heap.size W (W.alloc (.cells (tokA x.1) TokT (0, 0))) := (Below.refl _ W).alloc (Nat.le_refl _) _
      have hnew : (W.alloc (.cells (tokA x.1) TokT (0, 0))).heap[W.heap.size]? = some (.cells (tokA x.1) TokT (0, 0)) := World.alloc_heap_new W _
      obtain ⟨W1, hW1⟩ : ∃ W1, W.alloc (.cells (tokA x.1) TokT (0, 0)) = W1 := ⟨_, rfl⟩
      have hz1 : W1.heap.size = W.heap.size + 1 := by rw [← hW1]; simp
      rw [hW1] at hb1 hnew ⊢
      have h41 := owns_below h4 hb1 (Nat.le_refl _)
      have h31 := h3.calls hb1
      have hlen : pre.length ≤ t.size := by
        have hl := els_len t _ 0 rfl (by omega)
        have := hx.length_le
        simp only [List.length_append, List.length_cons, List.length_nil] at this
        omega
      obtain ⟨i0, hi, hz0, hz2, hz3⟩ := info_partsT info_Tok
      have hrun := run_append_own_at (P := Tryd.prog) W1 D SlT SlT TokT i0 _ 5 48 Tryd.underlying31 hi hz0 hz2 hz3 rfl (by decide) v pre.length _ h41 ⟨W.heap.size, 0, none⟩ 1 1 (tokA x.1).toList rfl
        (fun j u hu => news_at hnew j u hu) (by simp [tokA, Value.oneCell']) (by unfold maxLen; omega) (by omega) (by rw [hz1]; omega)
      obtain ⟨v', W2, hrun, h5, h6, -, h7⟩ := hrun
      refine wi_val (v := v') (fun _ => trivial) (by simp) (run_app_of rfl rfl rfl hrun) rfl ?_
      have hr2 := fun g hv => owns_lt (g := g) h4 hv
      have h32 : Mem w (MM v (.int .i64 0) (.int .i64 0)) W2 := mem_grown h31 h6 fun g e => ⟨by have := (hr2 g e).1; omega, fun p hp e2 => by have := hMl _ _ _ p hp; have := (hr2 g e).1; omega⟩
      have hg2 : W2.heap[c]? = some (.cells #[v] SlT (0, 0)) := by rw [hMM] at h32; exact h32.get 1 rfl
      refine wi_skip (fun _ => trivial) (by simp) (run_store_one (v := v') hg2 rfl rfl rfl cellSl (owns_one h5)) rfl rfl ?_
      have h33 : Mem w (MM v' (.int .i64 0) (.int .i64 0)) (W2.setRow c #[v']) := by
        rw [hMM] at h32 ⊢
        exact h32.set (cs := #[v']) 1 rfl
      have hro : rowOf c W = v.ownBlock := rowOf_of hg1
      have hro3 : rowOf c (W2.setRow c #[v']) = v'.ownBlock := rowOf_of (by rw [hMM] at h33; exact h33.get 1 rfl)
      have hsz3 : (W2.setRow c #[v']).heap.size = W2.heap.size := by simp
      have hsz2 := h6.size
      refine wpListIn_nil ⟨⟨by omega, fun k o hk hg hcl => ?_⟩, ⟨by omega, fun k ob hk hf => ?_⟩, ⟨fun y hy => ?_, by omega⟩, v', h33, ?_⟩
      · have hkW := (Array.getElem?_eq_some_iff.1 hg).1
        rw [setRow_other _ _ _ _ (by omega)]
        refine (h6.block k (by omega) (fun e => ?_)).trans ((hb1.block k hkW).trans hg)
        obtain ⟨-, -, cs, hcs⟩ := hr2 k e.symm
        rw [hg] at hcs
        cases hcs
        cases hcl
      · have hkW := (Array.getElem?_eq_some_iff.1 hk).1
        obtain ⟨n1, n2, n3⟩ := hf
        rw [hro] at n3
        refine ⟨?_, n1, n2, ?_⟩
        · rw [setRow_other _ _ _ _ n1]
          exact (h6.block k (by omega) (fun e => n3 e.symm)).trans ((hb1.block k hkW).trans hk)
        · rw [hro3]
          rcases h7 with h7 | h7
          · rw [h7]; exact n3
          · rw [h7]
            intro e
            have := Option.some.inj e
            omega
      · rcases List.mem_append.1 hy with h | h
        · exact h1 y h
        · rw [List.mem_singleton.1 h]; exact hE
      · have h8 := owns_setRow (cs := #[v']) h5 uc
        rw [List.length_append, List.map_append, tkV_app]
        have e1 : tkV (List.map Prod.fst [x]) = (tokA x.1).toList := by simp [tkV]
        rw [e1]
        exact h8
    · have hz : z = true := by rw [ez]; simp; omega
      subst hz
      refine wpIn_cond_true rfl ?_
      refine wpIn_seq_k fun K4 hK4 => ?_
      have hMM' := hMM
      rw [hMM] at h3
      have y1 := blk_cell hp (i := 1) (v := .int .i64 (x.1.fr : Int)) rfl
      have k2 := blk_cell (h3.get 4 rfl) (i := 0) (v := .slice none 0 0) rfl
      have k3 := blk_cell (h3.get 3 rfl) (i := 0) (v := .int .i64 0) rfl
      have k4 := blk_cell (h3.get 2 rfl) (i := 0) (v := .int .i64 0) rfl
      have z2 := Lib.frozen_of_heap (h3.get 4 rfl) 0
      have z3 := Lib.frozen_of_heap (h3.get 3 rfl) 0
      have z4 := Lib.frozen_of_heap (h3.get 2 rfl) 0
      have n1 : p ≠ r2 := by omega
      have n2 : p ≠ r3 := by omega
      have n3 : p ≠ r4 := by omega
      have n1' : r2 ≠ p := by omega
      have n2' : r3 ≠ p := by omega
      have n3' : r4 ≠ p := by omega
      have m1 : r4 ≠ r3 := (List.pairwise_iff_getElem.1 h3.nod) 2 3 (by simp) (by simp) (by omega)
      have m2 : r4 ≠ r2 := (List.pairwise_iff_getElem.1 h3.nod) 2 4 (by simp) (by simp) (by omega)
      have m3 : r3 ≠ r2 := (List.pairwise_iff_getElem.1 h3.nod) 3 4 (by simp) (by simp) (by omega)
      have m1' := m1.symm
      have m2' := m2.symm
      have m3' := m3.symm
      have fin : KeepsFrom D W (((W.setCell ⟨r2, 0, none⟩ (.slice none 0 0)).setCell ⟨r3, 0, none⟩ (.int .i64 (x.1.fr : Int))).setCell ⟨r4, 0, none⟩ (.int .i64 (x.2 : Int))).drew ∧ Mem w (MM v (.int .i64 (x.2 : Int)) (.int .i64 (x.1.fr : Int))) (((W.setCell ⟨r2, 0, none⟩ (.slice none 0 0)).setCell ⟨r3, 0, none⟩ (.int .i64 (x.1.fr : Int))).setCell ⟨r4, 0, none⟩ (.int .i64 (x.2 : Int))).drew := by
        have h3e := h3.set (cs := #[.slice none 0 0]) 4 rfl
        have h3f := h3e.set (cs := #[.int .i64 (x.1.fr : Int)]) 3 rfl
        have h3g := h3f.set (cs := #[.int .i64 (x.2 : Int)]) 2 rfl
        rw [setCell_row (h3.get 4 rfl), setCell_row (h3e.get 3 rfl), setCell_row (h3f.get 2 rfl), hMM]
        have hkk := (((KeepsFrom.refl D W).trans (setRow_keeps _ r2 D #[.slice none 0 0] u2)).trans (setRow_keeps _ r3 D #[.int .i64 (x.1.fr : Int)] u3)).trans (setRow_keeps _ r4 D #[.int .i64 (x.2 : Int)] u4)
        exact ⟨⟨hkk.size, hkk.same⟩, h3g.drew⟩
      have FIN := Lib.hid (show _ ∧ _ ∧ _ from ⟨fin, hE, h1⟩)
      clear h3 hMM hMM' hM5 hM5' hMc hMl ez hK3 hK2 hx hp hg1 fin h1 hE hrow hT5 hloop
      gi_region
      all_goals exact hK4 _ _ (wpIn_ret ⟨FIN.out.1.1, rfl, pre, x, rfl, FIN.out.2.1, FIN.out.2.2, v, FIN.out.1.2⟩)
  case done =>
    rintro D' W hD' ⟨⟨h1, -⟩, v, h3, h4⟩ hK
    rw [hD] at hD'
    rw [hMM] at h3
    go_upto_region 8 with fail
    refine wp_region_lit ?_
    refine lw_val (v := v) (run_load_cell rfl rfl (h3.get 1 rfl) rfl cellSl) rfl ?_
    simp only [nm0, nm1, nm2, nm3]
    refine lw_skipW (run_store_one (v := v) (h3.get 4 rfl) rfl rfl rfl cellSl (owns_one h4)) rfl rfl ?_
    have h3e := h3.set (cs := #[v]) 4 rfl
    refine lw_skipW (run_store_one (v := .int .i64 0) (h3e.get 3 rfl) rfl rfl rfl cellInt rfl) rfl rfl ?_
    have h3f := h3e.set (cs := #[.int .i64 0]) 3 rfl
    refine lw_skipW (run_store_one (v := .int .i64 0) (h3f.get 2 rfl) rfl rfl rfl cellErr rfl) rfl rfl ?_
    have h3g := h3f.set (cs := #[.int .i64 0]) 2 rfl
    simp only [nm2, nm3] at h3g
    refine wpList_nil ?_
    have hK3 : (((W.setRow r2 #[v]).setRow r3 #[.int .i64 0]).setRow r4 #[.int .i64 0]).heap[D']? = some (.deferred (some [])) := by
      rw [setRow_other _ _ _ _ (by omega), setRow_other _ _ _ _ (by omega), setRow_other _ _ _ _ (by omega)]
      exact hK
    have h4g := owns_setRow (cs := #[.int .i64 0]) (owns_setRow (cs := #[.int .i64 0]) (owns_setRow (cs := #[v]) h4 u2) u3) u4
    obtain ⟨W9, hW9⟩ : ∃ W9, ((W.setRow r2 #[v]).setRow r3 #[.int .i64 0]).setRow r4 #[.int .i64 0] = W9 := ⟨_, rfl⟩
    rw [hW9] at hK3 h3g h4g ⊢
    go_wp2_with fail
    refine ⟨by simp, .inl ⟨_, _, rfl, run_takeDeferred hK3, ?_⟩⟩
    have hpo := grownBy_putObj' W9 D' (.deferred none)
    have hpr : ∀ r, some D' = some r → D ≤ r ∧ ∃ o : Obj, W9.heap[r]? = some o ∧ o.isCells = false := fun r e => by cases e; exact ⟨hD', _, hK3, rfl⟩
    have hM9 := mem_own h3g (D := D) (fun p hp => by
      simp only [List.mem_cons, List.not_mem_nil, or_false] at hp
      rcases hp with rfl | rfl | rfl | rfl | rfl <;> rfl) hwD hpo hpr
    have h49 := owns_own h4g hpo fun r e => (hpr r e).2
    obtain ⟨e1, e2⟩ := resT_ok h1
    refine ⟨_, results_ccc rfl rfl rfl rfl (load_cell (hM9.get 4 rfl) rfl cellSl) (load_cell (hM9.get 3 rfl) rfl cellInt) (load_cell (hM9.get 2 rfl) rfl cellErr), v, by rw [e1]; rfl, ?_, hM9.below⟩
    rw [e2, List.length_map]
    exact owns_below h49 (Below.refl _ _) hwD
  case stop =>
    rintro D' cd pre x W hD' hx ⟨rfl, pre', x', he, hE, hp, v, hM⟩ hK
    rw [hD] at hD'
    obtain ⟨rfl, hxx⟩ := List.append_inj' he rfl
    obtain rfl : x = x' := by simpa using hxx
    refine wpIn_wide.2 ?_
    go_wp2_with fail
    refine ⟨by simp, .inl ⟨_, _, rfl, run_takeDeferred hK, ?_⟩⟩
    have hpo := grownBy_putObj' W D' (.deferred none)
    have hpr : ∀ r, some D' = some r → D ≤ r ∧ ∃ o : Obj, W.heap[r]? = some o ∧ o.isCells = false := fun r e => by cases e; exact ⟨hD', _, hK, rfl⟩
    have hM9 := mem_own hM (D := D) (hMc _ _ _) hwD hpo hpr
    rw [hMM] at hM9
    obtain ⟨e1, e2⟩ := resT_err hx hp hE
    refine ⟨_, results_ccc rfl rfl rfl rfl (load_cell (hM9.get 4 rfl) rfl cellSl) (load_cell (hM9.get 3 rfl) rfl cellInt) (load_cell (hM9.get 2 rfl) rfl cellErr), .slice none 0 0, by rw [e1]; rfl, ?_, hM9.below⟩
    rw [e2]
    exact World.ownsRow_nil _ _ _ _
end Go.Proofs.YtndifilhfiooaaaDoor
namespace Go.Proofs.YtndifilhfiooaaaDoor
set_option maxRecDepth 20000
set_option linter.unusedSimpArgs false
set_option linter.unusedVariables false
open Go.RowKit Go.Lib Go.Shelf Go.Sort
attribute [local go_sem] Oper.semAt_some
end Go.Proofs.YtndifilhfiooaaaDoor
namespace Go.Proofs.YtndifilhfiooaaaDoor
set_option maxRecDepth 20000
set_option linter.unusedSimpArgs false
set_option linter.unusedVariables false
open Go.RowKit Go.Lib Go.Shelf Go.Sort
attribute [local go_sem] Oper.semAt_some
section
variable {P : Program} {w w0 : World} {ops : Array Oper} {Q : Exit → Act → World → Prop} {o : Oper} {rest : List Oper} {A : Act}
end
end Go.Proofs.YtndifilhfiooaaaDoor
namespace Go.Proofs.YtndifilhfiooaaaDoor
set_option maxRecDepth 20000
set_option linter.unusedSimpArgs false
set_option linter.unusedVariables false
open Go.RowKit Go.Lib Go.Shelf Go.Sort
attribute [local go_sem] Oper.semAt_some
def ex1T : ByteArray := ⟨#[91, 49, 44, 32, 34, 97, 34, 93]⟩
def ex2T : ByteArray := ⟨#[91, 48, 49]⟩
theorem ex_step {t : ByteArray} {a : Nat} (ha : a ≤ t.size) {X : Tok} (b : Nat) (hb : blk t a = b) (hX : wordT t b = (X, 0)) (hk : X.kind ≠ 12) : els t a = (X, 0) :: els t X.til := by
  have h := (els_more ha (by rw [hb, hX]) (by rw [hb, hX]; exact hk)).1
  rw [hb, hX] at h
  exact h
theorem ex1_els : els ex1T 0 = [(⟨3, 0, 1, 0, []⟩, 0), (⟨11, 1, 2, 1, []⟩, 0), (⟨5, 2, 3, 0, []⟩, 0), (⟨10, 4, 7, 0, [97]⟩, 0), (⟨4, 7, 8, 0, []⟩, 0), (⟨12, 8, 8, 0, []⟩, 0)] := by
  have b0 : blk ex1T 0 = 0 := blk_stop (by decide)
  have b1 : blk ex1T 1 = 1 := blk_stop (by decide)
  have b2 : blk ex1T 2 = 2 := blk_stop (by decide)
  have b4 : blk ex1T 4 = 4 := blk_stop (by decide)
  have b3 : blk ex1T 3 = 4 := by rw [blk_more (by decide) (by decide)]; exact b4
  have b7 : blk ex1T 7 = 7 := blk_stop (by decide)
  have b8 : blk ex1T 8 = 8 := blk_stop (by decide)
  have w1 : wordT ex1T 1 = (⟨11, 1, 2, 1, []⟩, 0) := by
    rw [word_num (by decide) (by decide) (by decide) (by decide) (by decide), show scanI ex1T (1 : Nat) = (1, 2, 0) by decide +kernel]
    rfl
  have u : unq ex1T.data.toList (4 + 1) = .ok ([97], 7) := by
    have h6 : unq ex1T.data.toList 6 = .ok ([], 7) := unq_quote (by decide) (by decide)
    rw [unq_cp (by decide) (by decide) (by decide) (by decide), show nx (List.drop (4 + 1) ex1T.data.toList) = some (97, 1) from rfl]
    simp only
    rw [h6]
    rfl
  have w4 : wordT ex1T 4 = (⟨10, 4, 7, 0, [97]⟩, 0) := by
    rw [word_text (by decide) (by decide) (by decide), u]
  rw [ex_step (by decide) 0 b0 (show wordT ex1T 0 = (⟨3, 0, 1, 0, []⟩, 0) from word_sign (by decide) (by decide)) (by decide), ex_step (by decide) 1 b1 w1 (by decide),
    ex_step (by decide) 2 b2 (show wordT ex1T 2 = (⟨5, 2, 3, 0, []⟩, 0) from word_sign (by decide) (by decide)) (by decide), ex_step (by decide) 4 b3 w4 (by decide),
    ex_step (by decide) 7 b7 (show wordT ex1T 7 = (⟨4, 7, 8, 0, []⟩, 0) from word_sign (by decide) (by decide)) (by decide),
    els_last (.inr (by rw [b8]; rfl)), b8, word_end (show 8 = ex1T.size from rfl)]
theorem ex2_els : els ex2T 0 = [(⟨3, 0, 1, 0, []⟩, 0), (tok0 1, 12)] := by
  have b0 : blk ex2T 0 = 0 := blk_stop (by decide)
  have b1 : blk ex2T 1 = 1 := blk_stop (by decide)
  have w1 : wordT ex2T 1 = (tok0 1, 12) := by
    rw [word_num (by decide) (by decide) (by decide) (by decide) (by decide), show scanI ex2T (1 : Nat) = (0, 0, 12) by decide +kernel]
    rfl
  rw [ex_step (by decide) 0 b0 (show wordT ex2T 0 = (⟨3, 0, 1, 0, []⟩, 0) from word_sign (by decide) (by decide)) (by decide), els_last (.inl (by show (wordT ex2T (blk ex2T 1)).2 ≠ 0; rw [b1, w1]; decide)), b1, w1]
/-- What a list of tokens holds: the row's cells. -/
theorem owns_slice {w : World} {D n : Nat} {v : Value} {xs : List Value} (h : w.ownsRow D TokT 5 v n xs) (hn : 0 < n) : ∃ g cap, v = .slice (some ⟨g, 0, none⟩) n cap ∧ D ≤ g ∧ g < w.heap.size ∧ ∃ cur : Array Value, w.heap[g]? = some (.cells cur TokT (0, 0)) ∧ cur.toList.take (n * 5) = xs := by
  obtain ⟨hl, h⟩ := h
  rcases h with h | ⟨g, cap, cur, h1, h2, h3, h4, h5, h6, h7⟩
  · have : n = 0 := by
      first
        | exact h.2
        | exact h.1
        | (obtain ⟨-, h⟩ := h; exact h)
    omega
  · exact ⟨g, cap, h1, h2, (Array.getElem?_eq_some_iff.1 h3).1, cur, h3, h7⟩
theorem xlives_any (w : World) (hT : Tabs w) : Calls Tryd.prog 6 #[] w fun e w' => e = .returned (.bool true) ∧ Below w.heap.size w w' := by
  have h2 := tabs_size hT
  have K1 := Lib.hid (fun w hT => toks_any ex1T (by decide) w hT)
  have K2 := Lib.hid (fun w hT => toks_any ex2T (by decide) w hT)
  rw [show resT (els ex1T 0) = [⟨3, 0, 1, 0, []⟩, ⟨11, 1, 2, 1, []⟩, ⟨5, 2, 3, 0, []⟩, ⟨10, 4, 7, 0, [97]⟩, ⟨4, 7, 8, 0, []⟩, ⟨12, 8, 8, 0, []⟩] by rw [ex1_els]; rfl, show (outT (els ex1T 0)).2 = (0, 0) by rw [ex1_els]; rfl] at K1
  rw [show resT (els ex2T 0) = [] by rw [ex2_els]; rfl, show (outT (els ex2T 0)).2 = (1, 12) by rw [ex2_els]; rfl] at K2
  simp only [ex1T, ex2T, List.length_cons, List.length_nil, Nat.zero_add, Nat.reduceAdd] at K1 K2
  go_enter Tryd.func6, Tryd.ntmps6
  go_wp2_with fail
  refine (K1.out _ hT).mono ?_
  rintro e w1 ⟨v, rfl, ho, hb1⟩
  have T1 := tabs_low h2 hT hb1
  obtain ⟨g, cap, rfl, hg, hgl, cur, hcur, htk⟩ := owns_slice ho (by decide)
  go_wp2_with fail
  refine (K2.out _ T1).mono ?_
  rintro e w2 ⟨v2, rfl, ho2, hb2⟩
  have hc2 := (hb2.block g hgl).trans hcur
  have hat : cur[19]? = some (.string ⟨#[97]⟩) := by
    have h := congrArg (fun l : List Value => l[19]?) htk
    simp only [List.getElem?_take] at h
    rw [if_pos (by decide)] at h
    rw [← Array.getElem?_toList, h]
    rfl
  have hx : w2.cell? ⟨g, 19, none⟩ = some (.string ⟨#[97]⟩) := by rw [Lib.cell_of_heap hc2]; exact hat
  clear hcur htk hc2 hat ho ho2 K1 K2 hT T1
  go_wp2_with fail
  go_ret
  exact ⟨rfl, hb1.trans (hb2.mono hb1.size)⟩
end Go.Proofs.YtndifilhfiooaaaDoor
namespace Go.Proofs.YtndifilhfiooaaaDoor
set_option maxRecDepth 20000
set_option linter.unusedSimpArgs false
set_option linter.unusedVariables false
open Go.RowKit Go.Lib Go.Shelf Go.Sort
attribute [local go_sem] Oper.semAt_some
end Go.Proofs.YtndifilhfiooaaaDoor
namespace Go.Proofs.YtndifilhfiooaaaDoor
set_option maxRecDepth 20000
set_option linter.unusedSimpArgs false
set_option linter.unusedVariables false
open Go.RowKit Go.Lib
theorem accept_eq : (Rows.laid_unicode_utf8_acceptRanges : DataW Unit) = acceptData := by kernel_rfl
theorem first_eq : Rows.laid_unicode_utf8_first = firstData := Pinned.utf8First_eq
theorem tabs_of_list {W : World} (h : laidMetH Tryd.prog [("unicode/utf8.acceptRanges", Rows.laid_unicode_utf8_acceptRanges), ("unicode/utf8.first", Rows.laid_unicode_utf8_first)] W) : Tabs W := by
  have h1 := (laidMetH_iff.1 h).1
  rw [accept_eq, first_eq] at h1
  have m1 : ("unicode/utf8.first", firstData) ∈ List.filter (fun x : String × DataW Unit => x.2.handleName?.isNone) [("unicode/utf8.acceptRanges", acceptData), ("unicode/utf8.first", firstData)] := List.mem_filter.2 ⟨.tail _ (.head _), by kernel_rfl⟩
  have m2 : ("unicode/utf8.acceptRanges", acceptData) ∈ List.filter (fun x : String × DataW Unit => x.2.handleName?.isNone) [("unicode/utf8.acceptRanges", acceptData), ("unicode/utf8.first", firstData)] := List.mem_filter.2 ⟨.head _, by kernel_rfl⟩
  exact utf8Tabs_of_reads (ρ := Tryd.lays197_ren) { Tryd.lays197 with } ⟨by kernel_rfl, by kernel_rfl, by kernel_rfl, by kernel_rfl, by kernel_rfl, by kernel_rfl, by kernel_rfl⟩ (Lib.laidMet.reads h1 m1) (Lib.laidMet.reads h1 m2)
end Go.Proofs.YtndifilhfiooaaaDoor
