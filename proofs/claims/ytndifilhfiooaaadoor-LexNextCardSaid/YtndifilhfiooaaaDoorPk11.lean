/- lex (layer 6): Next; LexNext. The tables of unicode/utf8, out of a row's list; LexNext for its frame. -/
import Derived.Lib.LaidU8
import Derived.PinnedBridge
import Derived.LaidSub
import Derived.Test.YtndifilhfiooaaaDoorPk10
namespace Go.Proofs.YtndifilhfiooaaaDoor
set_option maxRecDepth 20000
set_option linter.unusedSimpArgs false
set_option linter.unusedVariables false
open Go.RowKit Go.Lib Go.Shelf Go.Sort
attribute [local go_sem] Oper.semAt_some
set_option maxRecDepth 100000 in
set_option maxHeartbeats 8000000 in
theorem xnext_out (t : ByteArray) (a : Int) (w : World) (ht : t.size ≤ 100000) (h : a < 0 ∨ (t.size : Int) < a) :
    Calls Tryd.prog 7 #[.string t, .int .i64 a] w fun e w' => e = .returned (.tuple #[.agg (tokA (tok0 0)), .int .i64 1]) ∧ Below w.heap.size w w' := by
  have hM0 := Mem.start w
  by_cases h1 : a < 0
  · have p1 : a < 0 := h1
    go_enter Tryd.func7, Tryd.ntmps7
    go_upto_region 0 with fail
    refine wp_region_lit ?_
    refine wl_new hM0 (f := fun b => .pointer (some ⟨b, 0, none⟩)) (fun W => run_alloc_of rfl (al_Tok W)) rfl fun r W1 hM1 => ?_
    simp only [nm0, nm1, nm2, nm3]
    refine wl_pure (v := .int .i64 0) (fun W => rfl) rfl ?_
    simp only [nm0, nm1, nm2, nm3]
    refine wpList_nil ?_
    go_upto_region 2 with fail
    refine wp_region_lit ?_
    refine wl_pure (v := .agg #[.int .i64 0, .int .i64 0, .int .i64 0, .int .i64 0, .string ByteArray.empty]) (fun W => run_build_of (ps := #[]) rfl (by simp [Act.eval]) (bd_Tok0 W)) rfl ?_
    simp only [nm0, nm1, nm2, nm3]
    refine wl_set hM1 0 (cs := #[.int .i64 0, .int .i64 0, .int .i64 0, .int .i64 0, .string ByteArray.empty]) rfl rfl rfl rfl rowTok rfl (by simp [Value.oneCell']) rfl rfl fun W8 hM8 => ?_
    simp only [nm2, nm3] at hM8
    refine wl_pure (v := .int .i64 1) (fun W => rfl) rfl ?_
    simp only [nm0, nm1, nm2, nm3]
    refine wpList_nil ?_
    go_wp2_with fail
    exact bodyPost_ret (resBT rfl rfl rfl (hM8.load 0 rfl rowTok)) rfl ⟨rfl, hM8.below⟩
  · have p1 : ¬ a < 0 := h1
    have p2 : (t.size : Int) < a := by omega
    go_enter Tryd.func7, Tryd.ntmps7
    go_upto_region 0 with fail
    refine wp_region_lit ?_
    refine wl_new hM0 (f := fun b => .pointer (some ⟨b, 0, none⟩)) (fun W => run_alloc_of rfl (al_Tok W)) rfl fun r W1 hM1 => ?_
    simp only [nm0, nm1, nm2, nm3]
    refine wl_pure (v := .int .i64 0) (fun W => rfl) rfl ?_
    simp only [nm0, nm1, nm2, nm3]
    refine wpList_nil ?_
    go_upto_region 2 with fail
    refine wp_region_lit ?_
    refine wl_pure (v := .agg #[.int .i64 0, .int .i64 0, .int .i64 0, .int .i64 0, .string ByteArray.empty]) (fun W => run_build_of (ps := #[]) rfl (by simp [Act.eval]) (bd_Tok0 W)) rfl ?_
    simp only [nm0, nm1, nm2, nm3]
    refine wl_set hM1 0 (cs := #[.int .i64 0, .int .i64 0, .int .i64 0, .int .i64 0, .string ByteArray.empty]) rfl rfl rfl rfl rowTok rfl (by simp [Value.oneCell']) rfl rfl fun W8 hM8 => ?_
    simp only [nm2, nm3] at hM8
    refine wl_pure (v := .int .i64 1) (fun W => rfl) rfl ?_
    simp only [nm0, nm1, nm2, nm3]
    refine wpList_nil ?_
    go_wp2_with fail
    exact bodyPost_ret (resBT rfl rfl rfl (hM8.load 0 rfl rowTok)) rfl ⟨rfl, hM8.below⟩
set_option maxRecDepth 100000 in
set_option maxHeartbeats 8000000 in
theorem xnext_in (t : ByteArray) (a : Nat) (w : World) (ht : t.size ≤ 100000) (ha : a ≤ t.size) (hT : Tabs w) :
    Calls Tryd.prog 7 #[.string t, .int .i64 (a : Int)] w fun e w' => e = .returned (.tuple #[.agg (tokA (wordT t (blk t a)).1), .int .i64 ((wordT t (blk t a)).2 : Int)]) ∧ Below w.heap.size w w' := by
  have h2 := tabs_size hT
  have hM0 := Mem.start w
  have p1 : ¬ (a : Int) < 0 := by omega
  have p2 : ¬ (t.size : Int) < (a : Int) := by omega
  have KN := Lib.hid (fun m n w hb hT => lnext_any t a m n w hb ht ha hT)
  obtain ⟨X, E, hX⟩ : ∃ X E, wordT t (blk t a) = (X, E) := ⟨_, _, rfl⟩
  rw [hX] at KN ⊢
  clear hX
  go_enter Tryd.func7, Tryd.ntmps7
  go_upto_region 0 with fail
  refine wp_region_lit ?_
  refine wl_new hM0 (f := fun b => .pointer (some ⟨b, 0, none⟩)) (fun W => run_alloc_of rfl (al_Tok W)) rfl fun r W1 hM1 => ?_
  simp only [nm0, nm1, nm2, nm3]
  refine wl_pure (v := .int .i64 0) (fun W => rfl) rfl ?_
  simp only [nm0, nm1, nm2, nm3]
  refine wpList_nil ?_
  go_upto_region 3 with fail
  refine wp_region_lit ?_
  refine wl_callE (args := #[]) (fun V => run_call_fn V (enters_of Tryd.func13 (by kernel_rfl) rfl) rfl (by simp [Act.eval])) (book_any W1) rfl ?_
  rintro e W2 ⟨m, n, rfl, hB, hm, hn, hb⟩
  refine ⟨_, rfl, ?_⟩
  have hM2 := hM1.calls hb
  simp only [nm0, nm1, nm2, nm3]
  refine wl_pure (v := .string t) (fun W => rfl) rfl ?_
  simp only [nm0, nm1, nm2, nm3]
  refine wl_pure (v := .int .i64 (a : Int)) (fun W => rfl) rfl ?_
  simp only [nm0, nm1, nm2, nm3]
  refine wl_call hM2 (args := #[.agg #[.map (some m), .map (some n)], .string t, .int .i64 (a : Int)]) (v := .tuple #[.agg (tokA X), .int .i64 (E : Int)]) (fun W => run_call_fn W (enters_of Tryd.func14 (by kernel_rfl) rfl) rfl (by simp [Act.eval, bookV])) (KN.out m n W2 hB (tabs_low h2 hT hM2.below)) rfl fun W3 hM3 => ?_
  simp only [nm0, nm1, nm2, nm3]
  refine wl_pure (v := .agg (tokA X)) (fun W => rfl) rfl ?_
  simp only [nm0, nm1, nm2, nm3]
  refine wl_pure (v := .int .i64 (E : Int)) (fun W => rfl) rfl ?_
  simp only [nm0, nm1, nm2, nm3]
  refine wl_set hM3 0 (cs := tokA X) rfl rfl rfl rfl rowTok rfl (by simp [tokA, Value.oneCell']) rfl rfl fun W4 hM4 => ?_
  simp only [nm2, nm3] at hM4
  refine wl_pure (v := .int .i64 (E : Int)) (fun W => rfl) rfl ?_
  simp only [nm0, nm1, nm2, nm3]
  refine wpList_nil ?_
  go_wp2_with fail
  exact bodyPost_ret (resBT rfl rfl rfl (hM4.load 0 rfl rowTok)) rfl ⟨rfl, hM4.below⟩
theorem xnext_any (t : ByteArray) (a : Int) (w : World) (ht : t.size ≤ 100000) (hT : Tabs w) :
    Calls Tryd.prog 7 #[.string t, .int .i64 a] w fun e w' => e = .returned (.tuple #[.agg (tokA (nextT t a).1), .int .i64 ((nextT t a).2 : Int)]) ∧ Below w.heap.size w w' := by
  by_cases h : a < 0 ∨ (t.size : Int) < a
  · have := xnext_out t a w (by omega) h
    unfold nextT
    rw [if_pos h]
    exact this
  · obtain ⟨k, rfl⟩ : ∃ k : Nat, a = (k : Int) := ⟨a.toNat, by omega⟩
    rw [nextT_nat (by omega)]
    exact xnext_in t k w ht (by omega) hT
theorem eql_tok (X : Tok) (W : World) : (binOp .eql TokT (.agg (tokA X)) (.agg (tokA X))).run Tryd.prog W = .ok (.bool true) W := by
  unfold tokA
  go_simp
theorem eql_tokG (X : Tok) (W : World) : (do eqGuard .eql TokT (.tmp 25) (.tmp 26) (.agg (tokA X)) (.agg (tokA X)); binOp .eql TokT (.agg (tokA X)) (.agg (tokA X)) : Sem Value).run Tryd.prog W = .ok (.bool true) W := by
  have h := eql_tok X W
  simp only [Sem.run_bind]
  rw [show (eqGuard .eql TokT (.tmp 25) (.tmp 26) (.agg (tokA X)) (.agg (tokA X))).run Tryd.prog W = .ok () W from by first | rfl | kernel_rfl | go_simp]
  exact h
set_option maxRecDepth 100000 in
set_option maxHeartbeats 8000000 in
theorem lexNext_w (t : ByteArray) (at_ : Int) (w : World) (hT : Tabs w) : Calls Tryd.prog 3 #[.string t, .int .i64 at_] w fun e w' => e = .returned (.bool true) ∧ Below w.heap.size w w' := by
  have h2 := tabs_size hT
  by_cases hs : 300 < t.size
  · have p1 : (300 : Int) < (t.size : Int) := by omega
    go_enter Tryd.func3, Tryd.ntmps3
    go_wp2_with fail
    refine (xlives_any w hT).mono ?_
    rintro e w1 ⟨rfl, hb1⟩
    go_wp2_with fail
    go_ret
    exact ⟨rfl, hb1⟩
  · have p1 : ¬ (300 : Int) < (t.size : Int) := by omega
    have KN := Lib.hid (fun w hT => xnext_any t at_ w (by omega) hT)
    have KR := Lib.hid (fun w => lrnext_any t at_ w (by omega))
    have KL := Lib.hid (fun w hT => xlives_any w hT)
    obtain ⟨X, E, hX⟩ : ∃ X E, nextT t at_ = (X, E) := ⟨_, _, rfl⟩
    rw [hX] at KN KR
    simp only at KN KR
    have hM0 := Mem.start w
    have EQ := eql_tokG X
    clear hX
    obtain ⟨TX, hTX⟩ : ∃ TX, tokA X = TX := ⟨_, rfl⟩
    have hsz : TX.size = 5 := by rw [← hTX]; rfl
    have hone : TX.all (·.oneCell') = true := by rw [← hTX]; simp [tokA, Value.oneCell']
    rw [hTX] at KN KR EQ
    go_enter Tryd.func3, Tryd.ntmps3
    go_upto_region 3 with fail
    refine wp_region_lit ?_
    refine wl_pure (v := .string t) (fun W => rfl) rfl ?_
    simp only [nm0, nm1, nm2, nm3]
    refine wl_pure (v := .int .i64 at_) (fun W => rfl) rfl ?_
    simp only [nm0, nm1, nm2, nm3]
    refine wl_call hM0 (args := #[.string t, .int .i64 at_]) (v := .tuple #[.agg TX, .int .i64 (E : Int)]) (fun W => run_call_fn W (enters_of Tryd.func7 (by kernel_rfl) rfl) rfl (by simp [Act.eval])) (KN.out w hT) rfl fun W1 hM1 => ?_
    simp only [nm0, nm1, nm2, nm3]
    refine wl_pure (v := .tuple #[.agg TX, .int .i64 (E : Int)]) (fun W => rfl) rfl ?_
    simp only [nm0, nm1, nm2, nm3]
    refine wl_pure (v := .agg TX) (fun W => rfl) rfl ?_
    simp only [nm0, nm1, nm2, nm3]
    refine wl_pure (v := .int .i64 (E : Int)) (fun W => rfl) rfl ?_
    simp only [nm0, nm1, nm2, nm3]
    refine wl_new hM1 (f := fun b => .pointer (some ⟨b, 0, none⟩)) (fun W => run_alloc_of rfl (al_Tok W)) rfl fun r W2 hM2 => ?_
    simp only [nm0, nm1, nm2, nm3]
    refine wl_set hM2 0 (cs := TX) rfl rfl rfl rfl (by rw [hsz]; exact rowTok) (by rw [hsz]; rfl) hone rfl rfl fun W3 hM3 => ?_
    simp only [nm2, nm3] at hM3
    refine wl_pure (v := .int .i64 (E : Int)) (fun W => rfl) rfl ?_
    simp only [nm0, nm1, nm2, nm3]
    refine wpList_nil ?_
    go_upto_region 4 with fail
    refine wp_region_lit ?_
    refine wl_pure (v := .string t) (fun W => rfl) rfl ?_
    simp only [nm0, nm1, nm2, nm3]
    refine wl_pure (v := .int .i64 at_) (fun W => rfl) rfl ?_
    simp only [nm0, nm1, nm2, nm3]
    refine wl_call hM3 (args := #[.string t, .int .i64 at_]) (v := .tuple #[.agg TX, .int .i64 (E : Int)]) (fun W => run_call_fn W (enters_of Tryd.func8 (by kernel_rfl) rfl) rfl (by simp [Act.eval])) (KR.out W3) rfl fun W4 hM4 => ?_
    simp only [nm0, nm1, nm2, nm3]
    refine wl_pure (v := .tuple #[.agg TX, .int .i64 (E : Int)]) (fun W => rfl) rfl ?_
    simp only [nm0, nm1, nm2, nm3]
    refine wl_pure (v := .agg TX) (fun W => rfl) rfl ?_
    simp only [nm0, nm1, nm2, nm3]
    refine wl_pure (v := .int .i64 (E : Int)) (fun W => rfl) rfl ?_
    simp only [nm0, nm1, nm2, nm3]
    refine wl_new hM4 (f := fun b => .pointer (some ⟨b, 0, none⟩)) (fun W => run_alloc_of rfl (al_Tok W)) rfl fun s W5 hM5 => ?_
    simp only [nm0, nm1, nm2, nm3]
    refine wl_set hM5 0 (cs := TX) rfl rfl rfl rfl (by rw [hsz]; exact rowTok) (by rw [hsz]; rfl) hone rfl rfl fun W6 hM6 => ?_
    simp only [nm2, nm3] at hM6
    refine wl_pure (v := .int .i64 (E : Int)) (fun W => rfl) rfl ?_
    simp only [nm0, nm1, nm2, nm3]
    refine wpList_nil ?_
    go_upto_region 5 with fail
    refine wp_region_lit ?_
    refine wl_row hM6 1 (v := .agg TX) rfl rfl rfl rfl (by rw [hsz]; exact rowTok) rfl ?_
    simp only [nm0, nm1, nm2, nm3]
    refine wl_row hM6 0 (v := .agg TX) rfl rfl rfl rfl (by rw [hsz]; exact rowTok) rfl ?_
    simp only [nm0, nm1, nm2, nm3]
    refine wl_pure (v := .bool true) (fun W => run_bin_of rfl rfl rfl (EQ W)) rfl ?_
    simp only [nm0, nm1, nm2, nm3]
    refine wl_pure (v := .bool true) (fun W => rfl) rfl ?_
    simp only [nm0, nm1, nm2, nm3]
    refine wl_pure (v := .int .i64 (E : Int)) (fun W => rfl) rfl ?_
    simp only [nm0, nm1, nm2, nm3]
    refine wl_pure (v := .int .i64 (E : Int)) (fun W => rfl) rfl ?_
    simp only [nm0, nm1, nm2, nm3]
    refine wl_pure (v := .bool true) (fun W => by go_simp) rfl ?_
    simp only [nm0, nm1, nm2, nm3]
    refine wl_pure (v := .bool true) (fun W => rfl) rfl ?_
    simp only [nm0, nm1, nm2, nm3]
    refine wl_pure (v := .bool true) (fun W => rfl) rfl ?_
    simp only [nm0, nm1, nm2, nm3]
    refine wl_call hM6 (args := #[]) (v := .bool true) (fun W => run_call_fn W (enters_of Tryd.func6 (by kernel_rfl) rfl) rfl (by simp [Act.eval])) (KL.out W6 (tabs_low h2 hT hM6.below)) rfl fun W7 hM7 => ?_
    simp only [nm0, nm1, nm2, nm3]
    refine wl_pure (v := .bool true) (fun W => rfl) rfl ?_
    simp only [nm0, nm1, nm2, nm3]
    refine wl_pure (v := .bool true) (fun W => rfl) rfl ?_
    simp only [nm0, nm1, nm2, nm3]
    refine wpList_nil ?_
    go_wp2_with fail
    go_ret
    exact ⟨rfl, hM7.below⟩
end Go.Proofs.YtndifilhfiooaaaDoor
namespace Go.Proofs.YtndifilhfiooaaaDoor
set_option maxRecDepth 20000
set_option linter.unusedSimpArgs false
set_option linter.unusedVariables false
open Go.RowKit Go.Lib
theorem accept_eq : (Rows.laid_unicode_utf8_acceptRanges : DataW Unit) = acceptData := by kernel_rfl
theorem first_eq : Rows.laid_unicode_utf8_first = firstData := Pinned.utf8First_eq
theorem tabs_of_list {W : World} (h : laidMetH Tryd.prog [("unicode/utf8.acceptRanges", Rows.laid_unicode_utf8_acceptRanges), ("unicode/utf8.first", Rows.laid_unicode_utf8_first)] W) : Tabs W := by
  have h1 := (laidMetH_iff.1 h).1
  rw [accept_eq, first_eq] at h1
  have m1 : ("unicode/utf8.first", firstData) ∈ List.filter (fun x : String × DataW Unit => x.2.handleName?.isNone) [("unicode/utf8.acceptRanges", acceptData), ("unicode/utf8.first", firstData)] := List.mem_filter.2 ⟨.tail _ (.head _), by kernel_rfl⟩
  have m2 : ("unicode/utf8.acceptRanges", acceptData) ∈ List.filter (fun x : String × DataW Unit => x.2.handleName?.isNone) [("unicode/utf8.acceptRanges", acceptData), ("unicode/utf8.first", firstData)] := List.mem_filter.2 ⟨.head _, by kernel_rfl⟩
  exact utf8Tabs_of_reads (ρ := Tryd.lays197_ren) { Tryd.lays197 with } ⟨by kernel_rfl, by kernel_rfl, by kernel_rfl, by kernel_rfl, by kernel_rfl, by kernel_rfl, by kernel_rfl⟩ (Lib.laidMet.reads h1 m1) (Lib.laidMet.reads h1 m2)
theorem tabs_lnext {W : World} (h : laidMetH Tryd.prog Rows.lexNextRow.laid W) : Tabs W := tabs_of_list h
theorem lexNext_walk (t : ByteArray) (at_ : Int) (W : World) (_ : t.size ≤ maxLen) (_ : (Lit.int .i64 at_).wf = true) (h : Tabs W) :
    Calls Tryd.prog 3 #[.string t, .int .i64 at_] W fun e W' => e = .returned (.bool true) ∧ Below W.heap.size W W' := lexNext_w t at_ W h
end Go.Proofs.YtndifilhfiooaaaDoor
