/- lives of layer 5; the law NumScans: it returns true. Deferred calls in texts of whole rows. No program in it. Strings in texts of whole rows: index, slice, sum, length. No program in it. lex (layer 6): the word that stands at a place (written by lx_gen_c.py). lex (layer 6): the word behind the blanks. A range over a function that tells a list which is known, left early or not; its iterator may have blocks of its own, which a round leaves alone. No program in it. -/
import Derived.Defers
import Derived.Lib.Strings
import Derived.BigQuiet
import Derived.RangeFuncFrom
import Derived.RangeFuncNested
import Derived.Test.YtndifilhfiooaaaDoorPm06
import Derived.Test.YtndifilhfiooaaaDoorPm04
import Derived.Test.YtndifilhfiooaaaDoorPm01
namespace Go.Proofs.YtndifilhfiooaaaDoor
set_option maxRecDepth 20000
set_option linter.unusedSimpArgs false
set_option linter.unusedVariables false
open Go.RowKit
theorem scanI_un {s : ByteArray} {f : Nat} (hf : f ≤ s.size) (hm : gb s f ≠ 45) : scanI s (f : Int) = scanF s f 0 := by
  rw [scanI, if_neg (by omega), Int.toNat_natCast, if_neg hm]
theorem scanI_si {s : ByteArray} {a f : Nat} (hfa : f = a + 1) (hf : f ≤ s.size) (hm : gb s a = 45) : scanI s (a : Int) = scanF s f 1 := by
  rw [scanI, if_neg (by omega), Int.toNat_natCast, if_pos hm, hfa]
theorem sign_in {s : ByteArray} {a : Nat} (hm : gb s a = 45) : a + 1 ≤ s.size := by
  apply Nat.lt_of_not_le
  intro h
  rw [gb_out s a h] at hm
  exact absurd hm (by decide)
theorem scan_any (s : ByteArray) (p : Int) (w : World) (hs : s.size ≤ 140737488355328) :
    Calls Tryd.prog 32 #[.string s, .int .i64 p] w fun e w' => e = retI (scanI s p) ∧ Below w.heap.size w w' := by
  by_cases hp : p < 0 ∨ (s.size : Int) < p
  · rw [scanI, if_pos hp]
    exact scan_out s p w hp hs
  · obtain ⟨a, rfl⟩ : ∃ a : Nat, p = (a : Int) := ⟨p.toNat, by omega⟩
    by_cases hm : gb s a = 45
    · have hf := sign_in hm
      rw [scanI_si rfl hf hm]
      by_cases hd : a + 1 < s.size ∧ isD (gb s (a + 1)) = true
      · exact scan_si s a (a + 1) w rfl hd.1 hm hd.2 hs
      · exact scan_si6 s a (a + 1) w rfl hf hm (fun h => by cases hx : isD (gb s (a + 1)) <;> simp_all) hs
    · have hf : a ≤ s.size := by omega
      rw [scanI_un hf hm]
      by_cases hd : a < s.size ∧ isD (gb s a) = true
      · exact scan_un s a w hd.1 hm hd.2 hs
      · exact scan_un6 s a w hf hm (fun h => by cases hx : isD (gb s a) <;> simp_all) hs
end Go.Proofs.YtndifilhfiooaaaDoor
namespace Go.Proofs.YtndifilhfiooaaaDoor
set_option maxRecDepth 20000
set_option linter.unusedSimpArgs false
set_option linter.unusedVariables false
open Go.RowKit Go.Sort
section
variable {P : Program} {ops : Array Oper} {w : World} {Q : Exit → Act → World → Prop} {o : Oper} {rest : List Oper} {A : Act}
end
end Go.Proofs.YtndifilhfiooaaaDoor
namespace Go.Proofs.YtndifilhfiooaaaDoor
set_option maxRecDepth 20000
set_option linter.unusedSimpArgs false
set_option linter.unusedVariables false
open Go.RowKit Go.Sort
section
variable {P : Program} {o : Oper} {A : Act}
theorem run_slc_str {ty : TypeId} {x : Operand} {lo hi mx : Option Operand} {S : ByteArray} {v : Value} (W : World) (ho : o.op = .slice ty x lo hi mx) (hx : A.eval x = .string S) (h : (Instr.sliceAt ty (.string S) (lo.map A.eval) (hi.map A.eval) (mx.map A.eval)).run P W = .ok v W) : (execOp A.eval o).run P W = .ok (.value v) W := by
  unfold execOp
  simp only [ho, hx, Sem.run_bind, h, Result.andThen_ok]
  rfl
theorem slc_str {ty : TypeId} {S : ByteArray} {i j : Nat} {k k' : IntKind} (W : World) (hu : P.underlying ty = some .string) (hij : i ≤ j) (hj : j ≤ S.size) : (Instr.sliceAt ty (.string S) (some (.int k (i : Int))) (some (.int k' (j : Int))) none).run P W = .ok (.string (S.extract i j)) W := by
  have h1 : ((i : Int) ≤ (j : Int)) := by omega
  have h2 : ((j : Int) ≤ (S.size : Int)) := by omega
  simp [Instr.sliceAt, Sem.run_bind, run_underlying hu W, Instr.slice, Instr.sliceBounds, Instr.sliceBound, asIntOf, go_sem, hij, hj]
/-- A string's sum. -/
theorem add_str {ty : TypeId} {S T : ByteArray} (x y : Operand) (W : World) (hz : S.size + T.size ≤ 9223372036854775807) : (do eqGuard .add ty x y (.string S) (.string T); binOp .add ty (.string S) (.string T) : Sem Value).run P W = .ok (.string (S ++ T)) W := by
  simp [eqGuard, binOp, Op.stringOp]
  omega
end
end Go.Proofs.YtndifilhfiooaaaDoor
namespace Go.Proofs.YtndifilhfiooaaaDoor
set_option maxRecDepth 20000
set_option linter.unusedSimpArgs false
set_option linter.unusedVariables false
open Go.RowKit Go.Lib Go.Shelf Go.Sort
attribute [local go_sem] Oper.semAt_some
section
variable {P : Program} {w w0 : World} {ops : Array Oper} {Q : Exit → Act → World → Prop} {o : Oper} {rest : List Oper} {A : Act}
/-- A call whose answer is only known to be there. -/
theorem wl_callE {f : FuncId} {args : Array Value} {R : Ending → World → Prop} (h : ∀ W, (execOp A.eval o).run P W = .ok (.enter f args) W) (hc : Calls P f args w R) (hgd : Region.wanted o (yielded ops A.tmps) = true) (hr : ∀ e w', R e w' → ∃ v, e = .returned v ∧ wpList P ops Q rest (A.put o.dst v) w') : wpList P ops Q (o :: rest) A w := by
  refine wpList_step fun K hK => ?_
  rw [if_pos hgd]
  unfold Oper.wp
  rw [h]
  exact hc.mono fun e w' he => by
    obtain ⟨v, rfl, hv⟩ := hr e w' he
    exact hK _ _ hv
end
theorem mixO : Tryd.prog.follows .mixedOrders = true := by kernel_rfl
theorem blk_cell {w : World} {p i : Nat} {cs : Array Value} {T : TypeId} {v : Value} (h : w.heap[p]? = some (.cells cs T (0, 0))) (hv : cs[i]? = some v) : w.cell? ⟨p, i, none⟩ = some v := by rw [Lib.cell_of_heap h]; exact hv
theorem blk_set {w : World} {p : Nat} {cs : Array Value} {T : TypeId} (h : w.heap[p]? = some (.cells cs T (0, 0))) (i : Nat) (v : Value) : (w.setCell ⟨p, i, none⟩ v).heap[p]? = some (.cells (cs.setIfInBounds i v) T (0, 0)) := by
  simp [World.setCell, Array.getElem?_modify, h]
theorem idx_blank : ∀ c : Fin 256, decide (0 ≤ Lib.indexByte [9, 10, 13, 32] (c.val : Int).toNat.toUInt8) = isB c.val := by decide +kernel
theorem idx_start : ∀ c : Fin 256, decide (0 ≤ Lib.indexByte [45, 48, 49, 50, 51, 52, 53, 54, 55, 56, 57] (c.val : Int).toNat.toUInt8) = (c.val == 45 || isD c.val) := by decide +kernel
theorem pre_lets (t : ByteArray) (a : Nat) (l : List UInt8) : Lib.hasPrefix (t.extract a t.size).data.toList l = lets t a l := by
  rcases Nat.lt_or_ge t.size a with h | h
  · have e : t.extract a t.size = ⟨#[]⟩ := by
      apply ByteArray.ext
      simp
      omega
    have d : t.data.toList.drop a = [] := List.drop_eq_nil_of_le (by rw [tlen]; omega)
    unfold lets
    rw [e, d]
    cases l <;> simp [Lib.hasPrefix]
  · rw [ext_seg t h]
    unfold lets seg Lib.hasPrefix
    rw [List.take_of_length_le (by rw [List.length_drop, tlen]; omega)]
    show l.isPrefixOf (t.data.toList.drop a) = _
    rw [Bool.eq_iff_iff, List.isPrefixOf_iff_prefix, decide_eq_true_eq, List.prefix_iff_eq_take]
    exact eq_comm
theorem unq_V {t : ByteArray} {a : Nat} (ha : a < t.size) (hc : gb t a = 34) : unquoteV t.data.toList (a : Int) = unq t.data.toList (a + 1) := by
  unfold unquoteV
  rw [if_neg (by rw [tlen]; omega), Int.toNat_natCast, if_neg (by rw [tlen]; omega), if_neg (by rw [gb_eq, hc]; exact fun h => h rfl)]
theorem text_ans {t : ByteArray} {a : Nat} (ha : a < t.size) (hc : gb t a = 34) {S : List UInt8} {J M : Nat} (h : ansU (unquoteV t.data.toList (a : Int)) = (S, J, M)) : (wordT t a).2 = M ∧ (M = 0 → (wordT t a).1 = ⟨10, a, J, 0, S⟩) := by
  rw [unq_V ha hc] at h
  rw [word_text ha hc (by rw [wordK_no (by omega) (by omega) (by omega)])]
  cases hu : unq t.data.toList (a + 1) with
  | error m =>
    rw [hu] at h
    obtain ⟨rfl, rfl, rfl⟩ : [] = S ∧ 0 = J ∧ m = M := by simpa [ansU] using h
    exact ⟨rfl, fun h => absurd h (fun h => lunq_no0 _ _ _ rfl (by rw [hu, h]))⟩
  | ok r =>
    obtain ⟨s, j⟩ := r
    rw [hu] at h
    obtain ⟨rfl, rfl, rfl⟩ : s = S ∧ j = J ∧ 0 = M := by simpa [ansU] using h
    exact ⟨rfl, fun _ => rfl⟩
theorem num_ans {t : ByteArray} {a : Nat} (ha : a < t.size) (hs : signK (gb t a) = 0) (hk : (wordK t a).1 = 0) (h34 : gb t a ≠ 34) (hc : gb t a = 45 ∨ isD (gb t a) = true) {Y J M : Int} (h : scanI t (a : Int) = (Y, J, M)) : ((wordT t a).2 : Int) = M ∧ (M = 0 → (wordT t a).1 = ⟨11, a, J.toNat, Y, []⟩ ∧ (J.toNat : Int) = J) := by
  rw [word_num ha hs hk h34 hc]
  have h1 := scanI_nn t a
  have h2 := fun h => scanI_in ha h
  rw [h] at h1 h2 ⊢
  simp only at h1 h2 ⊢
  by_cases hm : M = 0
  · rw [if_pos hm]
    have := h2 hm
    exact ⟨by rw [hm]; rfl, fun _ => ⟨rfl, by omega⟩⟩
  · rw [if_neg hm]
    exact ⟨by show ((M.toNat : Nat) : Int) = M; omega, fun h => absurd h hm⟩
theorem word_letters (c : Nat) : ∃ (k : Nat) (l : List UInt8) (B : Bool), wordA (wordV c) = (.agg #[.int .i64 (k : Int), .string ⟨l.toArray⟩], B) ∧ ((B = true ∧ wordV c = some (k, l)) ∨ (B = false ∧ wordV c = none)) := by
  cases h : wordV c with
  | none => exact ⟨0, [], false, rfl, .inr ⟨rfl, rfl⟩⟩
  | some r =>
    obtain ⟨k, l⟩ := r
    exact ⟨k, l, true, rfl, .inl ⟨rfl, rfl⟩⟩
set_option maxRecDepth 100000 in
set_option maxHeartbeats 8000000 in
theorem read_any (t : ByteArray) (a m n p : Nat) (w : World) (hb : Books m n w) (hp : w.heap[p]? = some (tokB (tok0 a))) (ht : t.size ≤ 100000) (ha : a ≤ t.size) (hT : TabsO p w) (hmp : m ≠ p) (hnp : n ≠ p) :
    Calls Tryd.prog 22 #[.agg #[.map (some m), .map (some n)], .string t, .pointer (some ⟨p, 0, none⟩)] w fun e w' => e = .returned (.int .i64 ((wordT t a).2 : Int)) ∧ Oth p w w' ∧ ((wordT t a).2 = 0 → w'.heap[p]? = some (tokB (wordT t a).1)) := by
  obtain ⟨hml, hnl⟩ := hb.lt
  have hpl : p < w.heap.size := (Array.getElem?_eq_some_iff.1 hp).1
  obtain ⟨q, hq⟩ : ∃ q, w.heap.size = q := ⟨_, rfl⟩
  obtain ⟨W, hW⟩ : ∃ W, w.alloc (.cells #[.map (some m), .map (some n)] BookT) = W := ⟨_, rfl⟩
  have gq : W.heap[q]? = some (.cells #[.map (some m), .map (some n)] BookT (0, 0)) := by rw [← hW, ← hq]; exact World.alloc_heap_new w _
  have hlo : Below w.heap.size w W := by rw [← hW]; exact (Below.refl _ w).alloc (Nat.le_refl _) _
  have gp : W.heap[p]? = some (tokB (tok0 a)) := (hlo.block p hpl).trans hp
  have gbk : Books m n W := hb.keep (hlo.block m hml) (hlo.block n hnl)
  have ho : Oth p w W := Oth.below hlo
  have hTW : TabsO p W := hT.keep ho
  obtain ⟨hmlW, hnlW⟩ := gbk.lt
  have hplW : p < W.heap.size := (Array.getElem?_eq_some_iff.1 gp).1
  have c0 := blk_cell gq (i := 0) (v := .map (some m)) rfl
  have c1 := blk_cell gq (i := 1) (v := .map (some n)) rfl
  have e1 := blk_cell gp (i := 1) (v := .int .i64 (a : Int)) rfl
  have HO := Lib.hid ho
  have HWq := Lib.hid (And.intro hq hW)
  have HT := Lib.hid hTW
  have HB := Lib.hid gbk
  clear hb hp hT hml hnl hpl hlo ho hTW gbk hq hW
  by_cases h0 : a = t.size
  · subst h0
    have e0 := blk_cell gp (i := 0) (v := .int .i64 0) rfl
    have e2 := blk_cell gp (i := 2) (v := .int .i64 0) rfl
    have f0 := Lib.frozen_of_heap gp 0
    have f2 := Lib.frozen_of_heap gp 2
    have H0 := Lib.hid (word_end (t := t) rfl)
    have HGP := Lib.hid gp
    clear HT HB gq gp
    go_enter Tryd.func22, Tryd.ntmps22
    go_upto_region 1 with fail
    rw [HWq.out.1, HWq.out.2]
    go_wp2_with fail
    go_ret
    rw [H0.out]
    exact ⟨rfl, (HO.out.setCell 0 _).setCell 2 _, fun _ => blk_set (blk_set HGP.out 0 _) 2 _⟩
  have hal : a < t.size := by omega
  obtain ⟨c, hc⟩ : ∃ c, gb t a = c := ⟨_, rfl⟩
  have hcl : c < 256 := by rw [← hc]; exact gb_lt t a
  have ga := (gb_at t a hal).trans hc
  have nata : (a : Int).toNat = a := by omega
  have q1 : (a : Int) < (t.size : Int) := by omega
  have q2 : ¬ (a : Int) = (t.size : Int) := by omega
  have lk1 : ∀ d os, (Instr.lookup 42 (.map (some m)) (u8 (c : Int)) true).run Tryd.prog (grow (redrawn W d) os) = .ok (.tuple #[i64 (signK c : Int), .bool (decide (signK c ≠ 0))]) (grow (redrawn W d) os) := fun d os => look_sign (HB.out.keep ((below_regrown W d os).block m hmlW) ((below_regrown W d os).block n hnlW)) c
  obtain ⟨K, hK⟩ : ∃ K, signK c = K := ⟨_, rfl⟩
  obtain ⟨B, hB⟩ : ∃ B, decide (signK c ≠ 0) = B := ⟨_, rfl⟩
  rw [hB, hK] at lk1
  have HGQ := Lib.hid gq
  have HGP := Lib.hid gp
  have HC := Lib.hid hc
  have HKB := Lib.hid (And.intro hK hB)
  have H0 := Lib.hid h0
  clear gq gp hc hK hB h0
  go_enter Tryd.func22, Tryd.ntmps22
  go_upto_region 1 with fail
  rw [HWq.out.1, HWq.out.2]
  go_upto_region 5 with fail
  refine wp_region_inw 11 mixO (by decide) (by kernel_rfl) (by kernel_rfl) ?_
  repeat (refine inw_val (v := ?_) (by rfl) (by rfl) (fun d os => ?_) ?_; rotate_left; (focus (have d0 := cell_regrown c0 d os; have l1 := lk1 d os; with_reducible go_simp; (try with_reducible rfl); done)); simp only [nm0, nm1, nm2, nm3])
  refine inw_end fun d os => ?_
  refine wpAny_done (by kernel_rfl) ?_ _
  have hbl := below_regrown W d os
  generalize grow (redrawn W d) os = W2 at hbl ⊢
  have gq2 := (hbl.block q (Array.getElem?_eq_some_iff.1 HGQ.out).1).trans HGQ.out
  have gp2 := (hbl.block p hplW).trans HGP.out
  have ho2 : Oth p w W2 := HO.out.trans (Oth.below hbl)
  have hB2 : Books m n W2 := HB.out.keep (hbl.block m hmlW) (hbl.block n hnlW)
  have hT2 : TabsO p W2 := HT.out.keep (Oth.below hbl)
  clear hbl lk1 c0 c1 e1
  cases B
  rotate_left
  · have hk : signK c ≠ 0 := of_decide_eq_true HKB.out.2
    have H1 := Lib.hid (word_sign hal (by rw [HC.out]; exact hk))
    rw [HC.out, HKB.out.1] at H1
    have e0 := blk_cell gp2 (i := 0) (v := .int .i64 0) rfl
    have e2 := blk_cell gp2 (i := 2) (v := .int .i64 0) rfl
    have f0 := Lib.frozen_of_heap gp2 0
    have f2 := Lib.frozen_of_heap gp2 2
    have i1 : IntKind.i64.wrap ((a : Int) + 1) = (a : Int) + 1 := IntWalk.i64_in _ (by omega)
    have HG2 := Lib.hid gp2
    have HO2 := Lib.hid ho2
    clear hk gp2 gq2 ho2 hB2 hT2
    go_wp2_with fail
    go_ret
    rw [H1.out]
    exact ⟨rfl, (HO2.out.setCell 0 _).setCell 2 _, fun _ => blk_set (blk_set HG2.out 0 _) 2 _⟩
  have hs0 : signK c = 0 := by have := of_decide_eq_false HKB.out.2; omega
  have HS := Lib.hid hs0
  obtain ⟨k2, l2, B2, hwa, hwv⟩ := word_letters c
  have hml2 := hB2.lt.1
  have hnl2 := hB2.lt.2
  have hpl2 : p < W2.heap.size := (Array.getElem?_eq_some_iff.1 gp2).1
  have lk2 : ∀ d os, (Instr.lookup 43 (.map (some n)) (u8 (c : Int)) true).run Tryd.prog (grow (redrawn W2 d) os) = .ok (.tuple #[(wordA (wordV c)).1, .bool (wordA (wordV c)).2]) (grow (redrawn W2 d) os) := fun d os => look_word (hB2.keep ((below_regrown W2 d os).block m hml2) ((below_regrown W2 d os).block n hnl2)) c
  obtain ⟨LS, hLS⟩ : ∃ LS : ByteArray, (⟨l2.toArray⟩ : ByteArray) = LS := ⟨_, rfl⟩
  rw [hwa, hLS] at lk2
  simp only at lk2
  have c1 := blk_cell gq2 (i := 1) (v := .map (some n)) rfl
  have HG2 := Lib.hid gp2
  have HO2 := Lib.hid ho2
  have HT2 := Lib.hid hT2
  have HWV := Lib.hid hwv
  have HLS := Lib.hid hLS
  clear hs0 hwa hwv hLS gp2 gq2 ho2 hB2 hT2 hml2 hnl2
  go_upto_region 9 with fail
  have hM0 := Mem.start W2
  refine wp_region_inz 10 8 rfl rfl (steady_extract rfl) (by kernel_rfl) (by decide) mixO (by decide) (by kernel_rfl) (by kernel_rfl) ?_
  repeat (refine inw_val (v := ?_) (by rfl) (by rfl) (fun d os => ?_) ?_; rotate_left; (focus (have d1 := cell_regrown c1 d os; have l2 := lk2 d os; with_reducible go_simp; (try with_reducible rfl); done)); simp only [nm0, nm1, nm2, nm3])
  refine inw_new (.cells #[.int .i64 0, .string ByteArray.empty] WordT (0, 0)) rfl rfl (fun A W => run_alloc_of rfl (al_Word W)) ?_
  simp only [List.nil_append, List.cons_append]
  refine inw_fin fun d os => ?_
  refine given_new (t := 10) rfl fun x lx gx => ?_
  refine given_nil fun hap => ?_
  simp only [nm0, nm1, nm2, nm3] at hap ⊢
  have hM1 := hM0.news1 (below_regrown W2 d os) lx gx
  clear hap lx gx
  generalize grow (redrawn W2 d) os = W3 at hM1 ⊢
  change wpAny _ _ _ _ 2 _ _ _
  refine any_set (n := 10) (by kernel_rfl) rfl hM1 0 (cs := #[.int .i64 (k2 : Int), .string LS]) rfl rfl rfl rfl rowWord rfl (by simp [Value.oneCell']) rfl rfl fun W4 hM2 => ?_
  simp only [nm2, nm3] at hM2
  refine any_pure (n := 11) (v := .bool B2) (by kernel_rfl) rfl (fun W => rfl) rfl rfl ?_
  simp only [nm0, nm1, nm2, nm3]
  refine wpAny_done (by kernel_rfl) ?_ _
  refine NoPanic.normal ?_
  have gx4 := hM2.get 0 rfl
  have gp4 := hM2.old HG2.out
  have ho4 : Oth p w W4 := HO2.out.trans (Oth.below hM2.below)
  have hT4 : TabsO p W4 := HT2.out.keep (Oth.below hM2.below)
  have hxp : x ≠ p := by have := hM2.low _ (List.mem_of_getElem? (i := 0) rfl); simp only at this; omega
  clear hM0 hM1 hM2 lk2 c1
  cases B2
  · have HK0 := Lib.hid (show (wordK t a).1 = 0 by
      rcases HWV.out with ⟨h, -⟩ | ⟨-, h⟩
      · cases h
      · rw [wordK_v, HC.out, h])
    go_upto_region 10 with fail
    refine wp_region_inw 9 mixO (by decide) (by kernel_rfl) (by kernel_rfl) ?_
    repeat (first | (refine inw_skip rfl rfl ?_; simp only [nm0, nm1, nm2, nm3]) | (refine inw_pure (v := .bool false) (fun W => rfl) rfl rfl ?_; simp only [nm0, nm1, nm2, nm3]))
    refine inw_end fun d os => ?_
    refine wpAny_done (by kernel_rfl) ?_ _
    have hbl := below_regrown W4 d os
    generalize grow (redrawn W4 d) os = W5 at hbl ⊢
    have gp5 := (hbl.block p (Array.getElem?_eq_some_iff.1 gp4).1).trans gp4
    have ho5 : Oth p w W5 := ho4.trans (Oth.below hbl)
    have hT5 : TabsO p W5 := hT4.keep (Oth.below hbl)
    clear hbl gx4 gp4 ho4 hT4
    have gpT := gp5
    have HOT := Lib.hid ho5
    have HTT := Lib.hid hT5

    have e0 := blk_cell gpT (i := 0) (v := .int .i64 0) rfl
    have f0 := Lib.frozen_of_heap gpT 0
    have HGT := Lib.hid gpT
    by_cases h34 : c = 34
    · have b34 : ((c : Int) == 34) = true := by simp [h34]
      obtain ⟨S, J, M, hr⟩ : ∃ S J M, ansU (unquoteV t.data.toList (a : Int)) = (S, J, M) := ⟨_, _, _, rfl⟩
      have HX := Lib.hid (text_ans hal (by rw [HC.out]; exact h34) hr)
      have KU := Lib.hid (fun w hT => unquote_any t (a : Int) w ht hT)
      rw [hr] at KU
      simp only [retU] at KU
      clear hr h34
      have g1 := blk_set HGT.out 0 (i64 10)
      have t1 := (HTT.out.keep ((Oth.refl p _).setCell 0 (i64 10))).1
      have o1 := HOT.out.setCell 0 (i64 10)
      have HG1 := Lib.hid g1
      have HT1 := Lib.hid t1
      have HO1 := Lib.hid o1
      clear gpT g1 t1 o1
      go_wp2_with fail
      refine (KU.out _ HT1.out).mono ?_
      rintro e w6 ⟨rfl, hb6⟩
      have g6 := (hb6.block p (Array.getElem?_eq_some_iff.1 HG1.out).1).trans HG1.out
      have o6 := HO1.out.trans (Oth.below hb6)
      have e4 := blk_cell g6 (i := 4) (v := .string ⟨([] : List UInt8).toArray⟩) rfl
      have e2 := blk_cell g6 (i := 2) (v := .int .i64 0) rfl
      have f4 := Lib.frozen_of_heap g6 4
      have f2 := Lib.frozen_of_heap g6 2
      have HG6 := Lib.hid g6
      have HO6 := Lib.hid o6
      clear g6 o6 hb6
      go_wp2_with fail
      go_ret
      obtain ⟨x1, x2⟩ := HX.out
      rw [x1]
      exact ⟨rfl, (HO6.out.setCell 4 _).setCell 2 _, fun h => by rw [x2 h]; exact blk_set (blk_set HG6.out 4 _) 2 _⟩
    have b34 : ((c : Int) == 34) = false := by simp; omega
    have is := idx_start ⟨c, hcl⟩
    simp only at is
    by_cases hN : c = 45 ∨ isD c = true
    · have hst : decide (0 ≤ Lib.indexByte [45, 48, 49, 50, 51, 52, 53, 54, 55, 56, 57] (c : Int).toNat.toUInt8) = true := by rw [is]; rcases hN with h | h <;> simp [h]
      obtain ⟨Y, J, M, hr⟩ : ∃ Y J M, scanI t (a : Int) = (Y, J, M) := ⟨_, _, _, rfl⟩
      have HX := Lib.hid (num_ans hal (by rw [HC.out]; exact HS.out) HK0.out (by rw [HC.out]; exact h34) (by rw [HC.out]; exact hN) hr)
      have KU := Lib.hid (fun w => scan_any t (a : Int) w (by omega))
      rw [hr] at KU
      simp only [retI] at KU
      obtain ⟨z, hz⟩ : ∃ z, Lib.indexByte [45, 48, 49, 50, 51, 52, 53, 54, 55, 56, 57] (c : Int).toNat.toUInt8 = z := ⟨_, rfl⟩
      have KI := Lib.hid (show ∀ w, Calls Tryd.prog 21 #[.string ⟨#[45, 48, 49, 50, 51, 52, 53, 54, 55, 56, 57]⟩, .int .u8 (c : Int)] w fun e w' => e = .returned (.int .i64 z) ∧ w' = w from fun w => by rw [← hz]; exact Tryd.strings_IndexByte _ _ w)
      rw [hz] at hst
      have p0 : (0 : Int) ≤ z := of_decide_eq_true hst
      clear hst hz
      clear hr hN is h34
      have g1 := blk_set HGT.out 0 (i64 11)
      have o1 := HOT.out.setCell 0 (i64 11)
      have HG1 := Lib.hid g1
      have HO1 := Lib.hid o1
      clear gpT g1 o1
      go_wp2_with fail
      refine (KI.out _).mono ?_
      rintro e w5 ⟨rfl, rfl⟩
      go_wp2_with fail
      refine (KU.out _).mono ?_
      rintro e w6 ⟨rfl, hb6⟩
      have g6 := (hb6.block p (Array.getElem?_eq_some_iff.1 HG1.out).1).trans HG1.out
      have o6 := HO1.out.trans (Oth.below hb6)
      have e3 := blk_cell g6 (i := 3) (v := .int .i64 0) rfl
      have e2 := blk_cell g6 (i := 2) (v := .int .i64 0) rfl
      have f3 := Lib.frozen_of_heap g6 3
      have f2 := Lib.frozen_of_heap g6 2
      have HG6 := Lib.hid g6
      have HO6 := Lib.hid o6
      clear g6 o6 hb6
      go_wp2_with fail
      go_ret
      obtain ⟨x1, x2⟩ := HX.out
      refine ⟨by rw [x1]; rfl, (HO6.out.setCell 3 _).setCell 2 _, fun h => ?_⟩
      obtain ⟨y1, y2⟩ := x2 (by omega)
      rw [y1]
      have := blk_set (blk_set HG6.out 3 (i64 Y)) 2 (i64 J)
      rw [← y2] at this
      rw [← y2]
      exact this
    · have hst : decide (0 ≤ Lib.indexByte [45, 48, 49, 50, 51, 52, 53, 54, 55, 56, 57] (c : Int).toNat.toUInt8) = false := by rw [is]; simp only [not_or] at hN; simp [hN.1, hN.2]
      have HX := Lib.hid (word_no hal (by rw [HC.out]; exact HS.out) HK0.out (by rw [HC.out]; exact h34) (by rw [HC.out]; exact hN))
      obtain ⟨z, hz⟩ : ∃ z, Lib.indexByte [45, 48, 49, 50, 51, 52, 53, 54, 55, 56, 57] (c : Int).toNat.toUInt8 = z := ⟨_, rfl⟩
      have KI := Lib.hid (show ∀ w, Calls Tryd.prog 21 #[.string ⟨#[45, 48, 49, 50, 51, 52, 53, 54, 55, 56, 57]⟩, .int .u8 (c : Int)] w fun e w' => e = .returned (.int .i64 z) ∧ w' = w from fun w => by rw [← hz]; exact Tryd.strings_IndexByte _ _ w)
      rw [hz] at hst
      have p0 : ¬ (0 : Int) ≤ z := of_decide_eq_false hst
      clear hst hz
      clear hN is h34 gpT
      go_wp2_with fail
      refine (KI.out _).mono ?_
      rintro e w5 ⟨rfl, rfl⟩
      go_wp2_with fail
      go_ret
      rw [HX.out]
      exact ⟨rfl, HOT.out, fun h => absurd (show 6 = 0 from h) (by decide)⟩
  · have hwv : wordV c = some (k2, l2) := by
      rcases HWV.out with ⟨-, h⟩ | ⟨h, -⟩
      · exact h
      · cases h
    have hwk := wordK_v t a
    rw [HC.out, hwv] at hwk
    simp only at hwk
    have x1 := blk_cell gx4 (i := 1) (v := .string LS) rfl
    obtain ⟨B3, hB3⟩ : ∃ B3, lets t a l2 = B3 := ⟨_, rfl⟩
    have KH := Lib.hid (show ∀ w, Calls Tryd.prog 30 #[.string (t.extract a t.size), .string LS] w fun e w' => e = .returned (.bool B3) ∧ w' = w from fun w => by
      have h := Tryd.strings_HasPrefix (t.extract a t.size) LS w
      rw [show LS.data.toList = l2 by rw [← HLS.out], pre_lets, hB3] at h
      exact h)
    go_upto_region 10 with fail
    refine wp_region_inw 9 mixO (by decide) (by kernel_rfl) (by kernel_rfl) ?_
    repeat (refine inw_val (v := ?_) (by rfl) (by rfl) (fun d os => ?_) ?_; rotate_left; (focus (have d1 := cell_regrown x1 d os; with_reducible go_simp; (try with_reducible rfl); done)); simp only [nm0, nm1, nm2, nm3])
    refine inw_callV (args := #[.string (t.extract a t.size), .string LS]) (v := .bool B3) (fun W => run_call_fn W (enters_of Tryd.func30 rfl rfl) rfl (by simp [Act.eval])) (fun W _ => (KH.out W).mono fun e w' h => ⟨h.1, by rw [h.2]; exact Below.refl _ _⟩) rfl rfl ?_
    simp only [nm0, nm1, nm2, nm3]
    repeat (refine inw_val (v := ?_) (by rfl) (by rfl) (fun d os => ?_) ?_; rotate_left; (focus (skip; with_reducible go_simp; (try with_reducible rfl); done)); simp only [nm0, nm1, nm2, nm3])
    refine inw_end fun d os => ?_
    refine wpAny_done (by kernel_rfl) ?_ _
    have hbl := below_regrown W4 d os
    generalize grow (redrawn W4 d) os = W5 at hbl ⊢
    have gx5 := (hbl.block x (Array.getElem?_eq_some_iff.1 gx4).1).trans gx4
    have gp5 := (hbl.block p (Array.getElem?_eq_some_iff.1 gp4).1).trans gp4
    have ho5 : Oth p w W5 := ho4.trans (Oth.below hbl)
    have hT5 : TabsO p W5 := hT4.keep (Oth.below hbl)
    clear hbl gx4 gp4 ho4 hT4 KH x1
    cases B3
    · have HK0 := Lib.hid (show (wordK t a).1 = 0 by rw [hwk, hB3]; rfl)
      clear hB3 hwk hwv gx5
      have gpT := gp5
      have HOT := Lib.hid ho5
      have HTT := Lib.hid hT5

      have e0 := blk_cell gpT (i := 0) (v := .int .i64 0) rfl
      have f0 := Lib.frozen_of_heap gpT 0
      have HGT := Lib.hid gpT
      by_cases h34 : c = 34
      · have b34 : ((c : Int) == 34) = true := by simp [h34]
        obtain ⟨S, J, M, hr⟩ : ∃ S J M, ansU (unquoteV t.data.toList (a : Int)) = (S, J, M) := ⟨_, _, _, rfl⟩
        have HX := Lib.hid (text_ans hal (by rw [HC.out]; exact h34) hr)
        have KU := Lib.hid (fun w hT => unquote_any t (a : Int) w ht hT)
        rw [hr] at KU
        simp only [retU] at KU
        clear hr h34
        have g1 := blk_set HGT.out 0 (i64 10)
        have t1 := (HTT.out.keep ((Oth.refl p _).setCell 0 (i64 10))).1
        have o1 := HOT.out.setCell 0 (i64 10)
        have HG1 := Lib.hid g1
        have HT1 := Lib.hid t1
        have HO1 := Lib.hid o1
        clear gpT g1 t1 o1
        go_wp2_with fail
        refine (KU.out _ HT1.out).mono ?_
        rintro e w6 ⟨rfl, hb6⟩
        have g6 := (hb6.block p (Array.getElem?_eq_some_iff.1 HG1.out).1).trans HG1.out
        have o6 := HO1.out.trans (Oth.below hb6)
        have e4 := blk_cell g6 (i := 4) (v := .string ⟨([] : List UInt8).toArray⟩) rfl
        have e2 := blk_cell g6 (i := 2) (v := .int .i64 0) rfl
        have f4 := Lib.frozen_of_heap g6 4
        have f2 := Lib.frozen_of_heap g6 2
        have HG6 := Lib.hid g6
        have HO6 := Lib.hid o6
        clear g6 o6 hb6
        go_wp2_with fail
        go_ret
        obtain ⟨x1, x2⟩ := HX.out
        rw [x1]
        exact ⟨rfl, (HO6.out.setCell 4 _).setCell 2 _, fun h => by rw [x2 h]; exact blk_set (blk_set HG6.out 4 _) 2 _⟩
      have b34 : ((c : Int) == 34) = false := by simp; omega
      have is := idx_start ⟨c, hcl⟩
      simp only at is
      by_cases hN : c = 45 ∨ isD c = true
      · have hst : decide (0 ≤ Lib.indexByte [45, 48, 49, 50, 51, 52, 53, 54, 55, 56, 57] (c : Int).toNat.toUInt8) = true := by rw [is]; rcases hN with h | h <;> simp [h]
        obtain ⟨Y, J, M, hr⟩ : ∃ Y J M, scanI t (a : Int) = (Y, J, M) := ⟨_, _, _, rfl⟩
        have HX := Lib.hid (num_ans hal (by rw [HC.out]; exact HS.out) HK0.out (by rw [HC.out]; exact h34) (by rw [HC.out]; exact hN) hr)
        have KU := Lib.hid (fun w => scan_any t (a : Int) w (by omega))
        rw [hr] at KU
        simp only [retI] at KU
        obtain ⟨z, hz⟩ : ∃ z, Lib.indexByte [45, 48, 49, 50, 51, 52, 53, 54, 55, 56, 57] (c : Int).toNat.toUInt8 = z := ⟨_, rfl⟩
        have KI := Lib.hid (show ∀ w, Calls Tryd.prog 21 #[.string ⟨#[45, 48, 49, 50, 51, 52, 53, 54, 55, 56, 57]⟩, .int .u8 (c : Int)] w fun e w' => e = .returned (.int .i64 z) ∧ w' = w from fun w => by rw [← hz]; exact Tryd.strings_IndexByte _ _ w)
        rw [hz] at hst
        have p0 : (0 : Int) ≤ z := of_decide_eq_true hst
        clear hst hz
        clear hr hN is h34
        have g1 := blk_set HGT.out 0 (i64 11)
        have o1 := HOT.out.setCell 0 (i64 11)
        have HG1 := Lib.hid g1
        have HO1 := Lib.hid o1
        clear gpT g1 o1
        go_wp2_with fail
        refine (KI.out _).mono ?_
        rintro e w5 ⟨rfl, rfl⟩
        go_wp2_with fail
        refine (KU.out _).mono ?_
        rintro e w6 ⟨rfl, hb6⟩
        have g6 := (hb6.block p (Array.getElem?_eq_some_iff.1 HG1.out).1).trans HG1.out
        have o6 := HO1.out.trans (Oth.below hb6)
        have e3 := blk_cell g6 (i := 3) (v := .int .i64 0) rfl
        have e2 := blk_cell g6 (i := 2) (v := .int .i64 0) rfl
        have f3 := Lib.frozen_of_heap g6 3
        have f2 := Lib.frozen_of_heap g6 2
        have HG6 := Lib.hid g6
        have HO6 := Lib.hid o6
        clear g6 o6 hb6
        go_wp2_with fail
        go_ret
        obtain ⟨x1, x2⟩ := HX.out
        refine ⟨by rw [x1]; rfl, (HO6.out.setCell 3 _).setCell 2 _, fun h => ?_⟩
        obtain ⟨y1, y2⟩ := x2 (by omega)
        rw [y1]
        have := blk_set (blk_set HG6.out 3 (i64 Y)) 2 (i64 J)
        rw [← y2] at this
        rw [← y2]
        exact this
      · have hst : decide (0 ≤ Lib.indexByte [45, 48, 49, 50, 51, 52, 53, 54, 55, 56, 57] (c : Int).toNat.toUInt8) = false := by rw [is]; simp only [not_or] at hN; simp [hN.1, hN.2]
        have HX := Lib.hid (word_no hal (by rw [HC.out]; exact HS.out) HK0.out (by rw [HC.out]; exact h34) (by rw [HC.out]; exact hN))
        obtain ⟨z, hz⟩ : ∃ z, Lib.indexByte [45, 48, 49, 50, 51, 52, 53, 54, 55, 56, 57] (c : Int).toNat.toUInt8 = z := ⟨_, rfl⟩
        have KI := Lib.hid (show ∀ w, Calls Tryd.prog 21 #[.string ⟨#[45, 48, 49, 50, 51, 52, 53, 54, 55, 56, 57]⟩, .int .u8 (c : Int)] w fun e w' => e = .returned (.int .i64 z) ∧ w' = w from fun w => by rw [← hz]; exact Tryd.strings_IndexByte _ _ w)
        rw [hz] at hst
        have p0 : ¬ (0 : Int) ≤ z := of_decide_eq_false hst
        clear hst hz
        clear hN is h34 gpT
        go_wp2_with fail
        refine (KI.out _).mono ?_
        rintro e w5 ⟨rfl, rfl⟩
        go_wp2_with fail
        go_ret
        rw [HX.out]
        exact ⟨rfl, HOT.out, fun h => absurd (show 6 = 0 from h) (by decide)⟩
    · have hk0 : (wordK t a).1 ≠ 0 ∧ wordK t a = (k2, l2.length) := by
        have e : wordK t a = (k2, l2.length) := by rw [hwk, hB3]; rfl
        refine ⟨?_, e⟩
        rw [e]
        unfold wordV at hwv
        repeat' split at hwv
        all_goals first | (cases hwv; decide) | (cases hwv)
      have hfit := wordK_fit t a hk0.1
      have H1 := Lib.hid (word_lets hal (by rw [HC.out]; exact HS.out) hk0.1)
      rw [hk0.2] at H1 hfit
      have hsz : LS.size = l2.length := by rw [← HLS.out]; simp [ByteArray.size]
      simp only at hfit
      have y0 := blk_cell gx5 (i := 0) (v := .int .i64 (k2 : Int)) rfl
      have y1 := blk_cell gx5 (i := 1) (v := .string LS) rfl
      have e0 := blk_cell gp5 (i := 0) (v := .int .i64 0) rfl
      have e2 := blk_cell gp5 (i := 2) (v := .int .i64 0) rfl
      have f0 := Lib.frozen_of_heap gp5 0
      have f2 := Lib.frozen_of_heap gp5 2
      have i1 : IntKind.i64.wrap ((a : Int) + (LS.size : Int)) = (a : Int) + (LS.size : Int) := IntWalk.i64_in _ (by omega)
      have HG5 := Lib.hid gp5
      have HO5 := Lib.hid ho5
      have HSZ := Lib.hid hsz
      clear hk0 hfit hsz hwk hwv hB3 gp5 gx5 ho5 hT5 HWV
      go_upto_region 11 with fail
      go_region
      all_goals
        go_wp2_with fail
        go_ret
        rw [H1.out, HSZ.out, show ((a : Int) + (l2.length : Int)) = ((a + l2.length : Nat) : Int) from by omega]
        exact ⟨rfl, by first | exact (HO5.out.setCell 0 _).setCell 2 _ | exact ((HO5.out.drewN _).setCell 0 _).setCell 2 _ | exact ((HO5.out.drewN 1).setCell 0 _).setCell 2 _, fun _ => by first | exact blk_set (blk_set HG5.out 0 _) 2 _⟩
end Go.Proofs.YtndifilhfiooaaaDoor
namespace Go.Proofs.YtndifilhfiooaaaDoor
set_option maxRecDepth 20000
set_option linter.unusedSimpArgs false
set_option linter.unusedVariables false
open Go.RowKit Go.Lib Go.Shelf Go.Sort
attribute [local go_sem] Oper.semAt_some
theorem bx_Book (m n : Nat) (W : World) : (Instr.box BookT (.agg #[.map (some m), .map (some n)])).run Tryd.prog W = .ok (.pointer (some ⟨W.heap.size, 0, none⟩)) (W.alloc (.cells #[.map (some m), .map (some n)] BookT (0, 0))) := by go_simp
theorem bd_Tok1 (k : Int) (W : World) : (Instr.build TokT #[(1, .int .i64 k)]).run Tryd.prog W = .ok (.agg #[.int .i64 0, .int .i64 k, .int .i64 0, .int .i64 0, .string ByteArray.empty]) W := by kernel_rfl
theorem resBT {P : Program} {w : World} {fn : Func} {tmps : Array Value} {v1 u : Value} {a1 t1 b1 s : Nat} (h : fn.results = #[.cell a1 t1, .tmp s]) (h1 : tmps.getD a1 undef = .pointer (some ⟨b1, 0, none⟩)) (h2 : tmps.getD s undef = u) (l1 : (loadVar t1 ⟨b1, 0, none⟩).run P w = .ok v1 w) : (results fn tmps).run P w = .ok (.tuple #[v1, u]) w := by
  have g1 : tmps[a1]?.getD undef = .pointer (some ⟨b1, 0, none⟩) := by simpa using h1
  have g2 : tmps[s]?.getD undef = u := by simpa using h2
  simp [results, h, g1, g2, asAddr, l1]
theorem mem_oth {w0 w w' : World} {M : List Blk} {p : Nat} {o : Obj} (h : Mem w0 ((p, o) :: M) w) (ho : Oth p w w') : Mem w0 M w' := by
  have hp := h.low (p, o) (List.mem_cons_self ..)
  simp only at hp
  refine ⟨?_, fun x hx => h.low x (List.mem_cons_of_mem _ hx), (List.pairwise_cons.1 h.nod).2, fun x hx => ?_⟩
  · exact h.below.trans (ho.low hp h.below.size)
  · have hne : x.1 ≠ p := fun e => (List.pairwise_cons.1 h.nod).1 x hx e.symm
    exact (ho.block x.1 (h.lt (List.mem_cons_of_mem _ hx)) hne).trans (h.at_ x (List.mem_cons_of_mem _ hx))
theorem mem_oth2 {w0 w w' : World} {M : List Blk} {p : Nat} {o o' : Obj} (h : Mem w0 ((p, o) :: M) w) (ho : Oth p w w') (hp' : w'.heap[p]? = some o') : Mem w0 ((p, o') :: M) w' := by
  have h2 := mem_oth h ho
  refine ⟨h2.below, fun x hx => ?_, ?_, fun x hx => ?_⟩
  · rcases List.mem_cons.1 hx with rfl | hx
    · exact h.low (p, o) (List.mem_cons_self ..)
    · exact h2.low x hx
  · exact List.pairwise_cons.2 ⟨fun x hx => (List.pairwise_cons.1 h.nod).1 x hx, h2.nod⟩
  · rcases List.mem_cons.1 hx with rfl | hx
    · exact hp'
    · exact h2.at_ x hx
theorem Mem.oth0 {w0 w : World} {M : List Blk} (h : Mem w0 M w) {p : Nat} (hT : Tabs w0) (hp : w0.heap.size ≤ p) : TabsO p w := by
  have h2 := tabs_size hT
  exact ⟨tabs_low h2 hT h.below, by have := h2.1; omega, by have := h2.2; omega⟩
set_option maxRecDepth 100000 in
set_option maxHeartbeats 8000000 in
theorem lnext_any (t : ByteArray) (a m n : Nat) (w : World) (hb : Books m n w) (ht : t.size ≤ 100000) (ha : a ≤ t.size) (hT : Tabs w) :
    Calls Tryd.prog 14 #[.agg #[.map (some m), .map (some n)], .string t, .int .i64 (a : Int)] w fun e w' => e = .returned (.tuple #[.agg (tokA (wordT t (blk t a)).1), .int .i64 ((wordT t (blk t a)).2 : Int)]) ∧ Below w.heap.size w w' := by
  obtain ⟨hml, hnl⟩ := hb.lt
  have hM0 := Mem.start w
  obtain ⟨f, hf⟩ : ∃ f, blk t a = f := ⟨_, rfl⟩
  have hfl : f ≤ t.size := by rw [← hf]; exact (blk_ge t _ a rfl).2.1 ha
  obtain ⟨X, E, hX⟩ : ∃ X E, wordT t f = (X, E) := ⟨_, _, rfl⟩
  have KR := Lib.hid (fun p w hb hp hT hmp hnp => read_any t f m n p w hb hp ht hfl hT hmp hnp)
  rw [hf, hX]
  rw [hX] at KR
  have hX2 : E ≠ 0 → X = tok0 f := fun h => by have := (word_in hfl).2.2.2 (by rw [hX]; exact h); rwa [hX] at this
  have HF := Lib.hid hf
  have HX2 := Lib.hid hX2
  clear hf hX hX2
  go_enter Tryd.func14, Tryd.ntmps14
  go_upto_region 0 with fail
  refine wp_region_lit ?_
  refine wl_new hM0 (f := fun b => .pointer (some ⟨b, 0, none⟩)) (ob := .cells #[.map (some m), .map (some n)] BookT (0, 0)) (fun W => run_box_of rfl rfl (bx_Book m n W)) rfl fun q W1 hM1 => ?_
  simp only [nm0, nm1, nm2, nm3]
  refine wl_new hM1 (f := fun b => .pointer (some ⟨b, 0, none⟩)) (fun W => run_alloc_of rfl (al_Tok W)) rfl fun r W2 hM2 => ?_
  simp only [nm0, nm1, nm2, nm3]
  refine wl_pure (v := .int .i64 0) (fun W => rfl) rfl ?_
  simp only [nm0, nm1, nm2, nm3]
  refine wpList_nil ?_
  clear hM0 hM1
  go_wp2_with fail
  go_loop [2] (fun p => ∃ k : Nat, p = .int .i64 (k : Int) ∧ k ≤ t.size ∧ blk t k = f) (fun p => t.size - (Go.RowKit.intOf p).toNat)
  case atStart => exact ⟨a, rfl, ha, HF.out⟩
  case round =>
    obtain ⟨k, rfl, hk, hbk⟩ := hrel
    by_cases hlt : k < t.size
    · have p1 : (k : Int) < (t.size : Int) := by omega
      have natk : (k : Int).toNat = k := by omega
      obtain ⟨c, hc⟩ : ∃ c, gb t k = c := ⟨_, rfl⟩
      have hcl : c < 256 := by rw [← hc]; exact gb_lt t k
      have gk := (gb_at t k hlt).trans hc
      have is := idx_blank ⟨c, hcl⟩
      simp only at is
      obtain ⟨z, hz⟩ : ∃ z, Lib.indexByte [9, 10, 13, 32] (c : Int).toNat.toUInt8 = z := ⟨_, rfl⟩
      have KI := Lib.hid (show ∀ w, Calls Tryd.prog 21 #[.string ⟨#[9, 10, 13, 32]⟩, .int .u8 (c : Int)] w fun e w' => e = .returned (.int .i64 z) ∧ w' = w from fun w => by rw [← hz]; exact Tryd.strings_IndexByte _ _ w)
      rw [hz] at is
      clear hz
      cases hB : isB c with
      | true =>
        rw [hB] at is
        have p2 : (0 : Int) ≤ z := of_decide_eq_true is
        have w1 : IntKind.i64.wrap ((k : Int) + 1) = (k : Int) + 1 := IntWalk.i64_in _ (by omega)
        have HR := Lib.hid (show blk t (k + 1) = f by rw [← hbk]; exact (blk_more hlt (by rw [hc]; exact hB)).symm)
        clear is hbk hB
        go_wp2_with fail
        refine (KI.out _).mono ?_
        rintro e w5 ⟨rfl, rfl⟩
        go_wp2_with fail
        go_round
        case rel => exact ⟨k + 1, congrArg (Value.int .i64) (by omega), hlt, HR.out⟩
        case measure => simp [Go.RowKit.intOf]; omega
      | false =>
        rw [hB] at is
        have p2 : ¬ (0 : Int) ≤ z := of_decide_eq_false is
        have hkf : k = f := by rw [← hbk]; exact (blk_stop (by rw [hc, hB]; simp)).symm
        subst hkf
        clear is hbk hB
        go_wp2_with fail
        refine (KI.out _).mono ?_
        rintro e w5 ⟨rfl, rfl⟩
        go_upto_region 3 with fail
        refine wp_region_lit ?_
        refine wl_pure (v := .int .i64 (k : Int)) (fun W => rfl) rfl ?_
        simp only [nm0, nm1, nm2, nm3]
        refine wl_pure (v := .agg #[.int .i64 0, .int .i64 (k : Int), .int .i64 0, .int .i64 0, .string ByteArray.empty]) (fun W => run_build_of (ps := #[(1, .int .i64 (k : Int))]) rfl (by simp [Act.eval]) (bd_Tok1 _ W)) rfl ?_
        simp only [nm0, nm1, nm2, nm3]
        refine wl_new hM2 (f := fun b => .pointer (some ⟨b, 0, none⟩)) (fun W => run_alloc_of rfl (al_Tok W)) rfl fun p W3 hM3 => ?_
        simp only [nm0, nm1, nm2, nm3]
        refine wl_set hM3 0 (cs := #[.int .i64 0, .int .i64 (k : Int), .int .i64 0, .int .i64 0, .string ByteArray.empty]) rfl rfl rfl rfl rowTok rfl (by simp [Value.oneCell']) rfl rfl fun W4 hM4 => ?_
        simp only [nm2, nm3] at hM4
        refine wpList_nil ?_
        have hlp := hM4.low _ (List.mem_of_getElem? (i := 0) rfl)
        simp only at hlp
        go_upto_region 4 with fail
        refine wp_region_lit ?_
        refine wl_row hM4 2 (v := .agg #[.map (some m), .map (some n)]) rfl rfl rfl rfl rowBook rfl ?_
        simp only [nm0, nm1, nm2, nm3]
        refine wl_pure (v := .string t) (fun W => rfl) rfl ?_
        simp only [nm0, nm1, nm2, nm3]
        refine wl_callE (args := #[.agg #[.map (some m), .map (some n)], .string t, .pointer (some ⟨p, 0, none⟩)]) (fun W => run_call_fn W (enters_of Tryd.func22 (by kernel_rfl) rfl) rfl (by simp [Act.eval])) (KR.out p W4 (hb.keep (hM4.below.block m hml) (hM4.below.block n hnl)) (hM4.get 0 rfl) (hM4.oth0 hT hlp) (by omega) (by omega)) rfl ?_
        rintro e W5 ⟨rfl, ho5, hp5⟩
        refine ⟨_, rfl, ?_⟩
        simp only [nm0, nm1, nm2, nm3]
        refine wl_pure (v := .int .i64 (E : Int)) (fun W => rfl) rfl ?_
        simp only [nm0, nm1, nm2, nm3]
        refine wpList_nil ?_
        by_cases hE : E = 0
        · have p5 : (E : Int) = 0 := by omega
          have hM5 := mem_oth2 hM4 ho5 (hp5 hE)
          clear hp5 ho5 hM4 hM3 hM2
          subst hE
          go_upto_region 7 with fail
          refine wp_region_lit ?_
          refine wl_row hM5 0 (v := .agg (tokA X)) rfl rfl rfl rfl rowTok rfl ?_
          simp only [nm0, nm1, nm2, nm3]
          refine wl_set hM5 1 (cs := tokA X) rfl rfl rfl rfl rowTok rfl (by simp [tokA, Value.oneCell']) rfl rfl fun W6 hM6 => ?_
          simp only [nm2, nm3] at hM6
          refine wl_pure (v := .int .i64 0) (fun W => rfl) rfl ?_
          simp only [nm0, nm1, nm2, nm3]
          refine wpList_nil ?_
          go_wp2_with fail
          exact bodyPost_ret (resBT rfl rfl rfl (hM6.load 1 rfl rowTok)) rfl ⟨rfl, hM6.below⟩
        · have p5 : ((E : Int) == 0) = false := by simp; omega
          have p6 : ¬ (E : Int) = 0 := by omega
          have hM5 := mem_oth hM4 ho5
          clear hp5 ho5 hM4 hM3 hM2
          go_upto_region 6 with fail
          refine wp_region_lit ?_
          refine wl_pure (v := .int .i64 (k : Int)) (fun W => rfl) rfl ?_
          simp only [nm0, nm1, nm2, nm3]
          refine wl_pure (v := .agg #[.int .i64 0, .int .i64 (k : Int), .int .i64 0, .int .i64 0, .string ByteArray.empty]) (fun W => run_build_of (ps := #[(1, .int .i64 (k : Int))]) rfl (by simp [Act.eval]) (bd_Tok1 _ W)) rfl ?_
          simp only [nm0, nm1, nm2, nm3]
          refine wl_pure (v := .int .i64 (E : Int)) (fun W => rfl) rfl ?_
          simp only [nm0, nm1, nm2, nm3]
          refine wl_set hM5 0 (cs := #[.int .i64 0, .int .i64 (k : Int), .int .i64 0, .int .i64 0, .string ByteArray.empty]) rfl rfl rfl rfl rowTok rfl (by simp [Value.oneCell']) rfl rfl fun W6 hM6 => ?_
          simp only [nm2, nm3] at hM6
          refine wl_pure (v := .int .i64 (E : Int)) (fun W => rfl) rfl ?_
          simp only [nm0, nm1, nm2, nm3]
          refine wpList_nil ?_
          go_wp2_with fail
          rw [HX2.out hE]
          exact bodyPost_ret (resBT rfl rfl rfl (hM6.load 0 rfl rowTok)) rfl ⟨rfl, hM6.below⟩
    · have p1 : ¬ (k : Int) < (t.size : Int) := by omega
      have hkf : k = f := by rw [← hbk]; exact (blk_stop (fun h => hlt h.1)).symm
      subst hkf
      clear hbk
      go_upto_region 3 with fail
      refine wp_region_lit ?_
      refine wl_pure (v := .int .i64 (k : Int)) (fun W => rfl) rfl ?_
      simp only [nm0, nm1, nm2, nm3]
      refine wl_pure (v := .agg #[.int .i64 0, .int .i64 (k : Int), .int .i64 0, .int .i64 0, .string ByteArray.empty]) (fun W => run_build_of (ps := #[(1, .int .i64 (k : Int))]) rfl (by simp [Act.eval]) (bd_Tok1 _ W)) rfl ?_
      simp only [nm0, nm1, nm2, nm3]
      refine wl_new hM2 (f := fun b => .pointer (some ⟨b, 0, none⟩)) (fun W => run_alloc_of rfl (al_Tok W)) rfl fun p W3 hM3 => ?_
      simp only [nm0, nm1, nm2, nm3]
      refine wl_set hM3 0 (cs := #[.int .i64 0, .int .i64 (k : Int), .int .i64 0, .int .i64 0, .string ByteArray.empty]) rfl rfl rfl rfl rowTok rfl (by simp [Value.oneCell']) rfl rfl fun W4 hM4 => ?_
      simp only [nm2, nm3] at hM4
      refine wpList_nil ?_
      have hlp := hM4.low _ (List.mem_of_getElem? (i := 0) rfl)
      simp only at hlp
      go_upto_region 4 with fail
      refine wp_region_lit ?_
      refine wl_row hM4 2 (v := .agg #[.map (some m), .map (some n)]) rfl rfl rfl rfl rowBook rfl ?_
      simp only [nm0, nm1, nm2, nm3]
      refine wl_pure (v := .string t) (fun W => rfl) rfl ?_
      simp only [nm0, nm1, nm2, nm3]
      refine wl_callE (args := #[.agg #[.map (some m), .map (some n)], .string t, .pointer (some ⟨p, 0, none⟩)]) (fun W => run_call_fn W (enters_of Tryd.func22 (by kernel_rfl) rfl) rfl (by simp [Act.eval])) (KR.out p W4 (hb.keep (hM4.below.block m hml) (hM4.below.block n hnl)) (hM4.get 0 rfl) (hM4.oth0 hT hlp) (by omega) (by omega)) rfl ?_
      rintro e W5 ⟨rfl, ho5, hp5⟩
      refine ⟨_, rfl, ?_⟩
      simp only [nm0, nm1, nm2, nm3]
      refine wl_pure (v := .int .i64 (E : Int)) (fun W => rfl) rfl ?_
      simp only [nm0, nm1, nm2, nm3]
      refine wpList_nil ?_
      by_cases hE : E = 0
      · have p5 : (E : Int) = 0 := by omega
        have hM5 := mem_oth2 hM4 ho5 (hp5 hE)
        clear hp5 ho5 hM4 hM3 hM2
        subst hE
        go_upto_region 7 with fail
        refine wp_region_lit ?_
        refine wl_row hM5 0 (v := .agg (tokA X)) rfl rfl rfl rfl rowTok rfl ?_
        simp only [nm0, nm1, nm2, nm3]
        refine wl_set hM5 1 (cs := tokA X) rfl rfl rfl rfl rowTok rfl (by simp [tokA, Value.oneCell']) rfl rfl fun W6 hM6 => ?_
        simp only [nm2, nm3] at hM6
        refine wl_pure (v := .int .i64 0) (fun W => rfl) rfl ?_
        simp only [nm0, nm1, nm2, nm3]
        refine wpList_nil ?_
        go_wp2_with fail
        exact bodyPost_ret (resBT rfl rfl rfl (hM6.load 1 rfl rowTok)) rfl ⟨rfl, hM6.below⟩
      · have p5 : ((E : Int) == 0) = false := by simp; omega
        have p6 : ¬ (E : Int) = 0 := by omega
        have hM5 := mem_oth hM4 ho5
        clear hp5 ho5 hM4 hM3 hM2
        go_upto_region 6 with fail
        refine wp_region_lit ?_
        refine wl_pure (v := .int .i64 (k : Int)) (fun W => rfl) rfl ?_
        simp only [nm0, nm1, nm2, nm3]
        refine wl_pure (v := .agg #[.int .i64 0, .int .i64 (k : Int), .int .i64 0, .int .i64 0, .string ByteArray.empty]) (fun W => run_build_of (ps := #[(1, .int .i64 (k : Int))]) rfl (by simp [Act.eval]) (bd_Tok1 _ W)) rfl ?_
        simp only [nm0, nm1, nm2, nm3]
        refine wl_pure (v := .int .i64 (E : Int)) (fun W => rfl) rfl ?_
        simp only [nm0, nm1, nm2, nm3]
        refine wl_set hM5 0 (cs := #[.int .i64 0, .int .i64 (k : Int), .int .i64 0, .int .i64 0, .string ByteArray.empty]) rfl rfl rfl rfl rowTok rfl (by simp [Value.oneCell']) rfl rfl fun W6 hM6 => ?_
        simp only [nm2, nm3] at hM6
        refine wl_pure (v := .int .i64 (E : Int)) (fun W => rfl) rfl ?_
        simp only [nm0, nm1, nm2, nm3]
        refine wpList_nil ?_
        go_wp2_with fail
        rw [HX2.out hE]
        exact bodyPost_ret (resBT rfl rfl rfl (hM6.load 0 rfl rowTok)) rfl ⟨rfl, hM6.below⟩
end Go.Proofs.YtndifilhfiooaaaDoor
namespace Go.Proofs.YtndifilhfiooaaaDoor
set_option maxRecDepth 20000
set_option linter.unusedSimpArgs false
set_option linter.unusedVariables false
open Go.RowKit
variable {F : Fence} {n : Nat} {P : Program}
/-- An iterator that tells L, to whoever takes what he likes of it, and keeps what Inv asks of worlds between rounds. -/
def SeqX {α : Type} (F : Fence) (n : Nat) (P : Program) (g : Nat) (lb : Array Value) (encs : α → Array Value) (Inv : World → Prop) (Kp : World → World → Prop) (L : List α) (w : World) : Prop :=
  ∀ (l : Nat) (J Jx : List α → World → Prop) (W : World), Below w.heap.size w W → OwnFrom W.heap.size J → OwnFrom W.heap.size Jx → (∀ pre W1, J pre W1 → Inv W1) →
    (∀ pre x W1, J pre W1 → pre ++ [x] <+: L → YieldAt F (n - 1) P l (encs x) W1 fun e W' => (e = .returned (.bool true) ∧ J (pre ++ [x]) W' ∧ Kp W1 W') ∨ (e = .returned (.bool false) ∧ Jx (pre ++ [x]) W' ∧ KeepsFrom W.heap.size W1 W')) →
    J [] W → CallsIn F n P g (#[.func (.yield l) #[] #[]] ++ lb) W fun e W' => (∃ v, e = .returned v) ∧ (J L W' ∨ ∃ pre x, pre ++ [x] <+: L ∧ Jx (pre ++ [x]) W')
theorem wpIn_range_x {α : Type} {g : Operand} {ps : Array Tmp} {assign body : Code} {Q : Exit → Act → World → Prop} {a : Act} {w : World}
    (hro : F.round = none) (h1 : 1 ≤ n) {gf : Nat} {lb : Array Value} (hg : a.eval g = .func (.func gf) #[] lb) (hFg : F.fn gf) (eg : ∀ args w, (callFunc gf args).run P w = .ok (.enter gf args) w)
    {encs : α → Array Value} {Inv : World → Prop} {Kp : World → World → Prop} {L : List α} {w0 : World} (hseq : SeqX F (n - 1) P gf lb encs Inv Kp L w0)
    (hKt : ∀ {A B C : World}, Kp A B → Kp B C → Kp A C) (hKb : ∀ (W : World) (r r' : Loop), W.heap[w.heap.size + 1]? = some (.loop r) → Kp W (W.putObj (w.heap.size + 1) (.loop r'))) (hb0 : Below w0.heap.size w0 w) (hps : ∀ x, (encs x).size = ps.size)
    (I : List α → World → Prop) (Ix : Code → List α → World → Prop) (hI : OwnFrom w.heap.size I) (hIx : ∀ c, OwnFrom w.heap.size (Ix c)) (hInv : ∀ pre W, I pre W → w.heap.size + 1 < W.heap.size → Inv W) (h0 : I [] w)
    (Ax : α → Act → World → Prop) (hAx : ∀ x a', OwnFrom w.heap.size (fun (_ : Unit) W => Ax x a' W))
    (hassign : ∀ (l : Nat) (pre : List α) (x : α) (W : World) (K : Act → World → Prop), I pre W → pre ++ [x] <+: L → (∀ a' W', KeepsFrom w.heap.size W W' → Kp W W' → I pre W' → Ax x a' W' → K a' W') →
      assign.wpIn (F.inRound l) (n - 1 - 1) P (Exit.then K (fun _ _ _ => False)) { tmps := (ps.zip (encs x)).foldl (fun t (p, v) => t.setIfInBounds p v) a.tmps, defers := [] } W)
    (hbody : ∀ (l : Nat) (pre : List α) (x : α) (a' : Act) (W : World), w.heap.size ≤ l → (∃ r, W.heap[l]? = some (.loop r)) → I pre W → Ax x a' W → pre ++ [x] <+: L → body.wpIn (F.inRound l) (n - 1 - 1) P (ownPostG w.heap.size Kp I Ix (pre ++ [x]) W) a' W)
    (hdone : ∀ (D : Nat) (W : World), w.heap.size ≤ D → I L W → W.heap[D]? = some (.deferred (some [])) → Q .normal { a with defers := { target := .collected D, args := #[] } :: a.defers } W)
    (hstop : ∀ (D : Nat) (c : Code) (pre : List α) (x : α) (W : World), w.heap.size ≤ D → pre ++ [x] <+: L → Ix c (pre ++ [x]) W → W.heap[D]? = some (.deferred (some [])) → c.wpIn F n P Q { a with defers := { target := .collected D, args := #[] } :: a.defers } W) :
    (Code.rangeFunc g ps assign body).wpIn F n P Q a w := by
  refine wpIn_rangeFunc fun fn hfn => ?_
  rw [hro]
  obtain ⟨D, hD⟩ : ∃ D, w.heap.size = D := ⟨_, rfl⟩
  -- the loop's record, in its states
  obtain ⟨rec, hrec⟩ : ∃ rec : LoopState → Option Code → Loop, rec = fun st pe => { state := st, pending := pe, fn, tmps := a.tmps, params := ps, assign, body, defers := D } := ⟨_, rfl⟩
  obtain ⟨W1, hW1⟩ : ∃ W1, (w.alloc (.deferred (some []))).alloc (.loop (rec .ready none)) = W1 := ⟨_, rfl⟩
  have hrun := run_enterLoop_outer (P := P) (w := w) fn a.tmps ps assign body
  rw [hD] at hrun
  have hz1 : W1.heap.size = D + 2 := by rw [← hW1, ← hD]; simp
  have hl1 : W1.heap[D + 1]? = some (.loop (rec .ready none)) := by
    have := World.alloc_heap_new (w.alloc (.deferred (some []))) (.loop (rec .ready none))
    rw [World.size_alloc, hW1, hD] at this
    exact this
  have hk1 : W1.heap[D]? = some (.deferred (some [])) := by
    rw [← hW1, ← hD]
    exact (Below.heap_alloc _ _ _ (by simp)).trans (World.alloc_heap_new w _)
  have hb1 : Below w0.heap.size w0 W1 := by
    rw [← hW1]
    exact hb0.trans ((((Below.refl _ w).alloc (Nat.le_refl _) _).alloc (by simp) _).mono hb0.size)
  have hI1 : I [] W1 := by rw [← hW1]; exact hI.alloc _ (hI.alloc _ h0)
  rw [hD] at hI hIx hAx hKb hInv hdone hstop hbody hassign
  -- what stays while the iterator goes on
  have far : ∀ {A : World} {row : Option Nat}, (∀ r, row = some r → W1.heap.size ≤ r ∧ ∃ o : Obj, A.heap[r]? = some o ∧ o.isCells = false) → ∀ r, row = some r → D ≤ r ∧ ∃ o : Obj, A.heap[r]? = some o ∧ o.isCells = false := fun hr r e => by
    obtain ⟨hB, o, ho, hw⟩ := hr r e
    exact ⟨by omega, o, ho, hw⟩
  have stay : ∀ {A B : World} {row : Option Nat} {k : Nat} {ob : Obj}, A.grownBy B row → (∀ r, row = some r → W1.heap.size ≤ r ∧ ∃ o : Obj, A.heap[r]? = some o ∧ o.isCells = false) → k < D + 2 → A.heap[k]? = some ob → B.heap[k]? = some ob := fun hg hr hk h =>
    (hg.block _ (Array.getElem?_eq_some_iff.1 h).1 (fun e => by have := (hr _ e.symm).1; omega)).trans h
  refine ⟨D + 1, [{ target := .collected D, args := #[] }], W1, { target := .fn (.func gf) lb, args := #[.func (.yield (D + 1)) #[] #[]] }, W1, gf, #[.func (.yield (D + 1)) #[] #[]] ++ lb, W1, ?_, ?_, ?_, ?_, fun _ => h1, ?_⟩
  · rw [hrun, ← hW1, hrec]
  · simp only [resolve, hg]
    simp [go_sem]
  · intro f' hf'
    simp [Target.leads] at hf'
    subst hf'
    exact hFg
  · simp [invoke, go_sem, eg]
  refine (hseq (D + 1) (fun pre W => I pre W ∧ W.heap[D + 1]? = some (.loop (rec .ready none)) ∧ W.heap[D]? = some (.deferred (some [])))
    (fun pre W => ∃ c, Ix c pre W ∧ W.heap[D + 1]? = some (.loop (rec .done (some c))) ∧ W.heap[D]? = some (.deferred (some []))) W1 hb1
    (fun pre A B row h hg hr => ⟨hI pre A B row h.1 hg (far hr), stay hg hr (by omega) h.2.1, stay hg hr (by omega) h.2.2⟩)
    (fun pre A B row h hg hr => by
      obtain ⟨c, i1, i2, i3⟩ := h
      exact ⟨c, hIx c pre A B row i1 hg (far hr), stay hg hr (by omega) i2, stay hg hr (by omega) i3⟩)
    (fun pre W h => hInv pre W h.1 (Array.getElem?_eq_some_iff.1 h.2.1).1) ?_ ⟨hI1, hl1, hk1⟩).mono ?_
  · rintro pre x W ⟨hi, hl, hk⟩ hx
    have hlt : D + 1 < W.heap.size := (Array.getElem?_eq_some_iff.1 hl).1
    have hy := run_yield (P := P) (args := encs x) hl (by rw [hrec]; exact hps x)
    rw [hrec] at hy
    refine ⟨fn, _, assign, body, hy, roundIn_of_wpIn hfn (hassign _ pre x W _ hi hx fun a' Wa ka qa ia xa => ?_)⟩
    have hla := ka.same _ _ (by omega) hl rfl
    have hka := ka.same _ _ (Nat.le_refl _) hk rfl
    have hlt2 : D + 1 < Wa.heap.size := (Array.getElem?_eq_some_iff.1 hla).1
    refine ⟨_, run_beginRound hla (by rw [hrec]), ?_⟩
    obtain ⟨W2, hW2⟩ : ∃ W2, Wa.putObj (D + 1) (.loop { rec .ready none with state := .busy }) = W2 := ⟨_, rfl⟩
    have hl2 : W2.heap[D + 1]? = some (.loop { rec .ready none with state := .busy }) := by rw [← hW2]; exact World.putObj_heap_same hlt2
    have hk2 : W2.heap[D]? = some (.deferred (some [])) := by rw [← hW2]; exact (World.putObj_heap_other (by omega)).trans hka
    have hi2 : I pre W2 := by rw [← hW2]; exact hI.putObj _ ia (by omega) hla rfl
    have hq2 : Kp W W2 := by rw [← hW2]; exact hKt qa (hKb _ _ _ hla)
    have hx2 : Ax x a' W2 := by rw [← hW2]; exact (hAx x a').putObj (s := ()) _ xa (by omega) hla rfl
    rw [hW2]
    -- the round's end, with a jump or none
    have fin : ∀ (j : Option Code) (W3 : World), KeepsFrom D W2 W3 → (Instr.endRound (D + 1) j).run P W3 = .ok (.bool j.isNone) (W3.putObj (D + 1) (.loop (rec (if j.isNone then .ready else .done) j))) ∧ W3.heap[D + 1]? = some (.loop { rec .ready none with state := .busy }) ∧
        (W3.putObj (D + 1) (.loop (rec (if j.isNone then .ready else .done) j))).heap[D + 1]? = some (.loop (rec (if j.isNone then .ready else .done) j)) ∧ (W3.putObj (D + 1) (.loop (rec (if j.isNone then .ready else .done) j))).heap[D]? = some (.deferred (some [])) := fun j W3 h3 => by
      have hl3 := h3.same _ _ (by omega) hl2 rfl
      have hend := run_endRound (P := P) j hl3
      refine ⟨?_, hl3, World.putObj_heap_same (Array.getElem?_eq_some_iff.1 hl3).1, (World.putObj_heap_other (by omega)).trans (h3.same _ _ (Nat.le_refl _) hk2 rfl)⟩
      rw [hend, hrec]
    have low : ∀ (W3 : World) (l' : Loop), KeepsFrom D W2 W3 → KeepsFrom W1.heap.size W (W3.putObj (D + 1) (.loop l')) := fun W3 l' h3 => by
      have hs2 : W2.heap.size = Wa.heap.size := by rw [← hW2]; simp [World.putObj]
      have hs3 : (W3.putObj (D + 1) (.loop l')).heap.size = W3.heap.size := by simp [World.putObj]
      refine ⟨by have := ka.size; have := h3.size; omega, fun k o hk ho hcl => ?_⟩
      rw [World.putObj_heap_other (by omega)]
      refine h3.same k o (by omega) ?_ hcl
      rw [← hW2, World.putObj_heap_other (by omega)]
      exact ka.same k o (by omega) ho hcl
    refine wpIn_mono (hbody _ pre x a' W2 (by omega) ⟨_, hl2⟩ hi2 hx2 hx) fun e a3 W3 hp => ?_
    match e, hp with
    | .normal, ⟨k3, q3, i3⟩ =>
      obtain ⟨hr, hl3, hl4, hk4⟩ := fin none W3 k3
      exact ⟨_, _, hr, .inl ⟨rfl, ⟨hI.putObj _ i3 (by omega) hl3 rfl, hl4, hk4⟩, hKt (hKt hq2 q3) (hKb _ _ _ hl3)⟩⟩
    | .ret, ⟨k3, i3⟩ =>
      obtain ⟨hr, hl3, hl4, hk4⟩ := fin (some .ret) W3 k3
      exact ⟨_, _, hr, .inr ⟨rfl, ⟨_, (hIx _).putObj _ i3 (by omega) hl3 rfl, hl4, hk4⟩, low _ _ k3⟩⟩
    | .exit id, ⟨k3, i3⟩ =>
      obtain ⟨hr, hl3, hl4, hk4⟩ := fin (some (.exit id)) W3 k3
      exact ⟨_, _, hr, .inr ⟨rfl, ⟨_, (hIx _).putObj _ i3 (by omega) hl3 rfl, hl4, hk4⟩, low _ _ k3⟩⟩
    | .goto u, ⟨k3, i3⟩ =>
      obtain ⟨hr, hl3, hl4, hk4⟩ := fin (some (.goto u)) W3 k3
      exact ⟨_, _, hr, .inr ⟨rfl, ⟨_, (hIx _).putObj _ i3 (by omega) hl3 rfl, hl4, hk4⟩, low _ _ k3⟩⟩
  · rintro e W2 ⟨⟨v, rfl⟩, ⟨hi, hl, hk⟩ | ⟨pre, x, hx, c, hi, hl, hk⟩⟩
    · have hend := run_endLoop (P := P) hl (by rw [hrec]; simp)
      exact ⟨none, _, by rw [hend, hrec], hdone D _ (Nat.le_refl _) (hI.putObj _ hi (by omega) hl rfl) ((World.putObj_heap_other (by omega)).trans hk)⟩
    · have hend := run_endLoop (P := P) hl (by rw [hrec]; simp)
      exact ⟨some c, _, by rw [hend, hrec], hstop D c pre x _ (Nat.le_refl _) hx ((hIx c).putObj _ hi (by omega) hl rfl) ((World.putObj_heap_other (by omega)).trans hk)⟩
/-- What a round keeps: whatever isn't its own. -/
def KpF (Fr : World → Nat → Prop) (A B : World) : Prop := A.heap.size ≤ B.heap.size ∧ ∀ k ob, A.heap[k]? = some ob → Fr A k → B.heap[k]? = some ob ∧ Fr B k
theorem kpF_t {Fr : World → Nat → Prop} {A B C : World} (h : KpF Fr A B) (k : KpF Fr B C) : KpF Fr A C :=
  ⟨Nat.le_trans h.1 k.1, fun i ob hi hf => k.2 i ob (h.2 i ob hi hf).1 (h.2 i ob hi hf).2⟩
/-- What is free of whoever ranges stays so, while others only make blocks. -/
def FrUp (Inv : World → Prop) (Fr : World → Nat → Prop) : Prop := ∀ A B k, Inv A → Below A.heap.size A B → (k < A.heap.size → Fr A k) → Fr B k
end Go.Proofs.YtndifilhfiooaaaDoor
