/- Verdict (layer 49) and the reference's. -/
import Derived.Test.YtdnkpclpcelbaaaDoorRepB
import Derived.Test.YtdnkpclpcelbaaaDoorRepC
import Derived.Test.YtdnkpclpcelbaaaDoorShoK
import Derived.Test.YtdnkpclpcelbaaaDoorInz
import Derived.Test.YtdnkpclpcelbaaaDoorHosG
namespace Go.Proofs.YtdnkpclpcelbaaaDoor
set_option maxRecDepth 20000
set_option linter.unusedSimpArgs false
set_option linter.unusedVariables false
open Go.RowKit Go.Lib Go.Sort
attribute [local go_sem] Oper.semAt_some
abbrev VerT : TypeId := 48
def evW : List UInt8 := [101, 118, 101, 110, 116]
def refW : List UInt8 := [114, 101, 102, 117, 115, 101, 100]
def redW : List UInt8 := [114, 101, 100, 97, 99, 116, 101, 100]
def okW : List UInt8 := [111, 107]
/-- The words of a verdict's line. -/
def verdW (I : List UInt8) (red : Bool) (E : Int) : List (List UInt8) := if E ≠ 0 then [evW, I, refW, Lib.itoa E] else if red then [evW, I, redW] else [evW, I, okW]
theorem verd_few {I X Y : List UInt8} {Z : List (List UInt8)} (hI : I.length ≤ 10000000) (i : Nat) (h : ∀ P ∈ X :: Y :: Z, P.length ≤ 10000000) : ((X :: Y :: Z).getD i []).length ≤ 10000000 := by
  rw [List.getD_eq_getElem?_getD]
  by_cases hi : i < (X :: Y :: Z).length
  · rw [List.getElem?_eq_getElem hi]
    exact h _ (List.getElem_mem hi)
  · rw [List.getElem?_eq_none (by omega)]
    simp
theorem itoa_few (E : Int) (h0 : -9223372036854775808 ≤ E) (h1 : E ≤ 9223372036854775807) : (Lib.itoa E).length ≤ 30 := by
  unfold Lib.itoa
  split
  · have := Lib.nDigits_le20 E.natAbs (by omega)
    rw [List.length_cons, Lib.decDigits_length]
    omega
  · have := Lib.nDigits_le20 E.toNat (by omega)
    rw [Lib.decDigits_length]
    omega
theorem alloc_top (w : World) (o : Obj) : (w.alloc o).heap[w.heap.size]? = some o := World.alloc_heap_new w o
theorem cellVS : CellTy Tryd.prog 9 := ⟨⟨_, Tryd.underlying9, rfl⟩, by kernel_rfl⟩
theorem cellVE : CellTy Tryd.prog 23 := ⟨⟨_, Tryd.underlying23, rfl⟩, by kernel_rfl⟩
theorem fl_ver0 (b : Nat) (W : World) : (Instr.fieldAt VerT (.pointer (some ⟨b, 0, none⟩)) 0).run Tryd.prog W = .ok (.pointer (some ⟨b, 0, none⟩)) W := by kernel_rfl
theorem fl_ver2 (b : Nat) (W : World) : (Instr.fieldAt VerT (.pointer (some ⟨b, 0, none⟩)) 2).run Tryd.prog W = .ok (.pointer (some ⟨b, 2, none⟩)) W := by kernel_rfl
theorem bs_St4 (a b c d : ByteArray) (W : World) : (Instr.buildSlice 46 4 #[(0, .string a), (1, .string b), (2, .string c), (3, .string d)]).run Tryd.prog W = .ok (.slice (some ⟨W.heap.size, 0, none⟩) 4 4) (W.alloc (.cells #[.string a, .string b, .string c, .string d] StT (0, 0))) := by go_simp
theorem bs_St3 (a b c : ByteArray) (W : World) : (Instr.buildSlice 46 3 #[(0, .string a), (1, .string b), (2, .string c)]).run Tryd.prog W = .ok (.slice (some ⟨W.heap.size, 0, none⟩) 3 3) (W.alloc (.cells #[.string a, .string b, .string c] StT (0, 0))) := by go_simp
theorem tab_low {w w' : World} (h : Tab w) (hb : Below w.heap.size w w') : Tab w' := tab_below h hb
theorem number_E (E : Int) (w : World) (h0 : -9223372036854775808 ≤ E) (h1 : E ≤ 9223372036854775807) (hT : Tab w) :
    Calls Tryd.prog 56 #[.int .i64 E] w fun e w' => e = .returned (.string (showB E)) ∧ Below w.heap.size w w' := by
  have w1 : IntKind.i64.wrap E = E := IntWalk.i64_in _ (by omega)
  have KS := Lib.hid (show_any E w h0 h1 hT)
  generalize showB E = X at KS ⊢
  go_enter Tryd.func56, Tryd.ntmps56
  go_wp2_with fail
  refine KS.out.mono ?_
  rintro e w2 ⟨rfl, hb⟩
  go_wp2_with fail
  go_ret
  exact ⟨rfl, hb⟩
theorem rnumber_E (E : Int) (w : World) (h0 : -9223372036854775808 ≤ E) (h1 : E ≤ 9223372036854775807) :
    Calls Tryd.prog 57 #[.int .i64 E] w fun e w' => e = .returned (.string (showB E)) ∧ Below w.heap.size w w' := by
  have w1 : IntKind.i64.wrap E = E := IntWalk.i64_in _ (by omega)
  have KS := Lib.hid (rshow_any E w h0 h1)
  generalize showB E = X at KS ⊢
  go_enter Tryd.func57, Tryd.ntmps57
  go_wp2_with fail
  refine KS.out.mono ?_
  rintro e w2 ⟨rfl, hb⟩
  go_wp2_with fail
  go_ret
  exact ⟨rfl, hb⟩
set_option maxRecDepth 100000 in
set_option maxHeartbeats 4000000 in
theorem rverdict_any (I : List UInt8) (red : Bool) (E : Int) (w : World) (h0 : -9223372036854775808 ≤ E) (h1 : E ≤ 9223372036854775807) (hI : I.length ≤ 10000000) :
    Calls Tryd.prog 27 #[.agg #[.string ⟨I.toArray⟩, .bool red, .int .i64 E]] w fun e w' => e = .returned (.string ⟨(lineL (verdW I red E)).toArray⟩) ∧ Below w.heap.size w w' := by
  have hm : Tryd.prog.follows .mixedOrders = true := by kernel_rfl
  obtain ⟨S, eS⟩ : ∃ S : ByteArray, (⟨I.toArray⟩ : ByteArray) = S := ⟨_, rfl⟩
  rw [eS]
  obtain ⟨R, eR⟩ : ∃ R : ByteArray, (⟨(lineL (verdW I red E)).toArray⟩ : ByteArray) = R := ⟨_, rfl⟩
  rw [eR]
  by_cases hE : E = 0
  · subst hE
    cases red
    · have KL : ∀ b W, W.heap[b]? = some (.cells #[.string ⟨#[101, 118, 101, 110, 116]⟩, .string S, .string ⟨#[111, 107]⟩] StT (0, 0)) → Calls Tryd.prog 25 #[.slice (some ⟨b, 0, none⟩) 3 3] W fun e w' => e = .returned (.string R) ∧ Below W.heap.size W w' := fun b W h => by
        rw [← eR]
        rw [← eS] at h
        exact rline_any _ [evW, I, okW] W (TxS.row (L := [evW, I, okW]) h) (by show 3 ≤ 100; decide) (fun i => verd_few hI i (by simp [evW, okW, hI]))
      have KL := Lib.hid KL
      clear eS eR
      go_enter Tryd.func27, Tryd.ntmps27
      go_upto_region 5 with fail
      have hM := (Mem.start w).new1 (.cells #[.string S, .bool false, .int .i64 0] VerT (0, 0))
      obtain ⟨B, hB⟩ : ∃ B, w.heap.size = B := ⟨_, rfl⟩
      obtain ⟨w1, hw1⟩ : ∃ w1, w.alloc (.cells #[.string S, .bool false, .int .i64 0] VerT (0, 0)) = w1 := ⟨_, rfl⟩
      change Code.wp _ _ _ _ (w.alloc (.cells #[.string S, .bool false, .int .i64 0] VerT (0, 0)))
      rw [hw1] at hM ⊢
      rw [hB] at hM
      have hpost : ∀ W, Mem w [(B, .cells #[.string S, .bool false, .int .i64 0] VerT (0, 0))] W → Below w.heap.size w W := fun W h => h.below
      simp only [hB]
      clear hw1 hB
      refine wp_region_lit ?_
      refine wl_pure (v := .pointer (some ⟨B, 0, none⟩)) (fun W => run_field_of rfl rfl (fl_ver0 B W)) rfl ?_; simp only [nm0, nm1, nm2, nm3]
      refine wl_cell hM 0 (v := .string S) rfl rfl rfl rfl cellVS rfl ?_; simp only [nm0, nm1, nm2, nm3]
      refine wl_new hM (f := fun b => .slice (some ⟨b, 0, none⟩) 3 3) (ob := .cells #[.string ⟨#[101, 118, 101, 110, 116]⟩, .string S, .string ⟨#[111, 107]⟩] StT (0, 0)) (fun W => run_slice_of rfl (by simp [Act.eval]) (bs_St3 _ _ _ W)) rfl fun b W2 hM2 => ?_
      simp only [nm0, nm1, nm2, nm3]
      refine wl_call hM2.tail (v := .string R) (fun W => run_call_fn W (enters_of Tryd.func25 (by kernel_rfl) rfl) rfl (by simp [Act.eval, Act.put])) (KL.out b W2 (hM2.get 0 rfl)) rfl fun W3 hM3 => ?_
      simp only [nm0, nm1, nm2, nm3]
      refine wl_pure (v := .string R) (fun _ => rfl) rfl ?_; simp only [nm0, nm1, nm2, nm3]
      refine wpList_nil ?_
      go_wp2_with fail
      go_ret
      exact ⟨rfl, hpost _ hM3⟩
    · have KL : ∀ b W, W.heap[b]? = some (.cells #[.string ⟨#[101, 118, 101, 110, 116]⟩, .string S, .string ⟨#[114, 101, 100, 97, 99, 116, 101, 100]⟩] StT (0, 0)) → Calls Tryd.prog 25 #[.slice (some ⟨b, 0, none⟩) 3 3] W fun e w' => e = .returned (.string R) ∧ Below W.heap.size W w' := fun b W h => by
        rw [← eR]
        rw [← eS] at h
        exact rline_any _ [evW, I, redW] W (TxS.row (L := [evW, I, redW]) h) (by show 3 ≤ 100; decide) (fun i => verd_few hI i (by simp [evW, redW, hI]))
      have KL := Lib.hid KL
      clear eS eR
      go_enter Tryd.func27, Tryd.ntmps27
      go_upto_region 4 with fail
      have hM := (Mem.start w).new1 (.cells #[.string S, .bool true, .int .i64 0] VerT (0, 0))
      obtain ⟨B, hB⟩ : ∃ B, w.heap.size = B := ⟨_, rfl⟩
      obtain ⟨w1, hw1⟩ : ∃ w1, w.alloc (.cells #[.string S, .bool true, .int .i64 0] VerT (0, 0)) = w1 := ⟨_, rfl⟩
      change Code.wp _ _ _ _ (w.alloc (.cells #[.string S, .bool true, .int .i64 0] VerT (0, 0)))
      rw [hw1] at hM ⊢
      rw [hB] at hM
      have hpost : ∀ W, Mem w [(B, .cells #[.string S, .bool true, .int .i64 0] VerT (0, 0))] W → Below w.heap.size w W := fun W h => h.below
      simp only [hB]
      clear hw1 hB
      refine wp_region_lit ?_
      refine wl_pure (v := .pointer (some ⟨B, 0, none⟩)) (fun W => run_field_of rfl rfl (fl_ver0 B W)) rfl ?_; simp only [nm0, nm1, nm2, nm3]
      refine wl_cell hM 0 (v := .string S) rfl rfl rfl rfl cellVS rfl ?_; simp only [nm0, nm1, nm2, nm3]
      refine wl_new hM (f := fun b => .slice (some ⟨b, 0, none⟩) 3 3) (ob := .cells #[.string ⟨#[101, 118, 101, 110, 116]⟩, .string S, .string ⟨#[114, 101, 100, 97, 99, 116, 101, 100]⟩] StT (0, 0)) (fun W => run_slice_of rfl (by simp [Act.eval]) (bs_St3 _ _ _ W)) rfl fun b W2 hM2 => ?_
      simp only [nm0, nm1, nm2, nm3]
      refine wl_call hM2.tail (v := .string R) (fun W => run_call_fn W (enters_of Tryd.func25 (by kernel_rfl) rfl) rfl (by simp [Act.eval, Act.put])) (KL.out b W2 (hM2.get 0 rfl)) rfl fun W3 hM3 => ?_
      simp only [nm0, nm1, nm2, nm3]
      refine wl_pure (v := .string R) (fun _ => rfl) rfl ?_; simp only [nm0, nm1, nm2, nm3]
      refine wpList_nil ?_
      go_wp2_with fail
      go_ret
      exact ⟨rfl, hpost _ hM3⟩
  · have hq : (E == 0) = false := by simpa using hE
    have hq2 : (E != 0) = true := by simp [bne, hq]
    obtain ⟨N, eN⟩ : ∃ N : ByteArray, showB E = N := ⟨_, rfl⟩
    have KN : ∀ W, Below w.heap.size w W → Calls Tryd.prog 57 #[.int .i64 E] W fun e w' => e = .returned (.string N) ∧ Below W.heap.size W w' := fun W hb => by
      rw [← eN]
      exact rnumber_E E W h0 h1
    have KL : ∀ b W, W.heap[b]? = some (.cells #[.string ⟨#[101, 118, 101, 110, 116]⟩, .string S, .string ⟨#[114, 101, 102, 117, 115, 101, 100]⟩, .string N] StT (0, 0)) → Calls Tryd.prog 25 #[.slice (some ⟨b, 0, none⟩) 4 4] W fun e w' => e = .returned (.string R) ∧ Below W.heap.size W w' := fun b W h => by
      rw [← eR, verdW, if_pos hE]
      rw [← eS, ← eN] at h
      exact rline_any _ [evW, I, refW, Lib.itoa E] W (TxS.row (L := [evW, I, refW, Lib.itoa E]) h) (by show 4 ≤ 100; decide) (fun i => verd_few hI i (by have := itoa_few E h0 h1; simp [evW, refW]; omega))
    have KL := Lib.hid KL
    have KN := Lib.hid KN
    clear eS eR eN
    go_enter Tryd.func27, Tryd.ntmps27
    go_upto_region 2 with fail
    have hM := (Mem.start w).new1 (.cells #[.string S, .bool red, .int .i64 E] VerT (0, 0))
    have hb1 : Below w.heap.size w (w.alloc (.cells #[.string S, .bool red, .int .i64 E] VerT (0, 0))) := hM.below
    have KN2 : ∀ W, Below (w.alloc (.cells #[.string S, .bool red, .int .i64 E] VerT (0, 0))).heap.size (w.alloc (.cells #[.string S, .bool red, .int .i64 E] VerT (0, 0))) W → _ := fun W hb => KN.out W (gr_step hb1 hb)
    have KN2 := Lib.hid KN2
    have HB1 := Lib.hid hb1
    obtain ⟨B, hB⟩ : ∃ B, w.heap.size = B := ⟨_, rfl⟩
    obtain ⟨w1, hw1⟩ : ∃ w1, w.alloc (.cells #[.string S, .bool red, .int .i64 E] VerT (0, 0)) = w1 := ⟨_, rfl⟩
    rw [hw1, hB] at hM
    change Code.wp _ _ _ _ (w.alloc (.cells #[.string S, .bool red, .int .i64 E] VerT (0, 0)))
    rw [hw1] at KN2 HB1 ⊢
    have hpost : ∀ W, Below w1.heap.size w1 W → Below w.heap.size w W := fun W hb => gr_step HB1.out hb
    simp only [hB]
    clear hb1 HB1 hw1 hB KN
    refine wp_region_inw 8 hm (by decide) (by kernel_rfl) (by kernel_rfl) ?_
    refine inw_pure (v := .pointer (some ⟨B, 0, none⟩)) (fun W => run_field_of rfl rfl (fl_ver0 B W)) rfl rfl ?_; simp only [nm0, nm1, nm2, nm3]
    refine inw_cell hM 0 (v := .string S) rfl rfl rfl rfl cellVS rfl rfl ?_; simp only [nm0, nm1, nm2, nm3]
    refine inw_pure (v := .pointer (some ⟨B, 2, none⟩)) (fun W => run_field_of rfl rfl (fl_ver2 B W)) rfl rfl ?_; simp only [nm0, nm1, nm2, nm3]
    refine inw_cell hM 0 (v := .int .i64 E) rfl rfl rfl rfl cellVE rfl rfl ?_; simp only [nm0, nm1, nm2, nm3]
    refine inw_callV (args := #[.int .i64 E]) (v := .string N) (fun W => run_call_fn W (enters_of Tryd.func57 (by kernel_rfl) rfl) rfl (by simp [Act.eval])) (fun W hb => KN2.out W hb) rfl rfl ?_; simp only [nm0, nm1, nm2, nm3]
    refine inw_slice (n := 4) (L := #[.string ⟨#[101, 118, 101, 110, 116]⟩, .string S, .string ⟨#[114, 101, 102, 117, 115, 101, 100]⟩, .string N]) (T := StT) (fun W => run_slice_of rfl (by simp [Act.eval]) (bs_St4 _ _ _ _ W)) rfl rfl ?_; simp only [List.nil_append, List.cons_append]
    refine inw_callS 5 11 (v := .string R) rfl rfl (fun _ => rfl) (fun b W => run_call_fn W (enters_of Tryd.func25 (by kernel_rfl) rfl) rfl (by simp [Act.eval, Act.put])) (fun b W h => KL.out b W h) ?_; simp only [nm0, nm1, nm2, nm3]
    refine inw_pure (v := .string R) (fun _ => rfl) rfl rfl ?_; simp only [nm0, nm1, nm2, nm3]
    refine inw_fin fun d os => ?_
    refine given_mk (t := 11) rfl fun s1 => ?_
    refine given_nil fun hap => ?_
    simp only [nm0, nm1, nm2, nm3] at hap ⊢
    have hb8 := hpost _ (below_regrown w1 d os)
    clear hap
    generalize Sort.grow (redrawn w1 d) os = W8 at hb8 ⊢
    refine wpAny_done (by kernel_rfl) ?_ _
    go_wp2_with fail
    go_ret
    exact ⟨rfl, hb8⟩
set_option maxRecDepth 100000 in
set_option maxHeartbeats 4000000 in
theorem verdict_any (I : List UInt8) (red : Bool) (E : Int) (w : World) (h0 : -9223372036854775808 ≤ E) (h1 : E ≤ 9223372036854775807) (hI : I.length ≤ 10000000) (hT : Tab w) :
    Calls Tryd.prog 26 #[.agg #[.string ⟨I.toArray⟩, .bool red, .int .i64 E]] w fun e w' => e = .returned (.string ⟨(lineL (verdW I red E)).toArray⟩) ∧ Below w.heap.size w w' := by
  have hm : Tryd.prog.follows .mixedOrders = true := by kernel_rfl
  obtain ⟨S, eS⟩ : ∃ S : ByteArray, (⟨I.toArray⟩ : ByteArray) = S := ⟨_, rfl⟩
  rw [eS]
  obtain ⟨R, eR⟩ : ∃ R : ByteArray, (⟨(lineL (verdW I red E)).toArray⟩ : ByteArray) = R := ⟨_, rfl⟩
  rw [eR]
  by_cases hE : E = 0
  · subst hE
    cases red
    · have KL : ∀ b W, W.heap[b]? = some (.cells #[.string ⟨#[101, 118, 101, 110, 116]⟩, .string S, .string ⟨#[111, 107]⟩] StT (0, 0)) → Calls Tryd.prog 24 #[.slice (some ⟨b, 0, none⟩) 3 3] W fun e w' => e = .returned (.string R) ∧ Below W.heap.size W w' := fun b W h => by
        rw [← eR]
        rw [← eS] at h
        exact line_any _ [evW, I, okW] W (TxS.row (L := [evW, I, okW]) h) (by show 3 ≤ 100; decide) (fun i => verd_few hI i (by simp [evW, okW, hI]))
      have KL := Lib.hid KL
      clear eS eR
      go_enter Tryd.func26, Tryd.ntmps26
      go_upto_region 5 with fail
      have hM := (Mem.start w).new1 (.cells #[.string S, .bool false, .int .i64 0] VerT (0, 0))
      obtain ⟨B, hB⟩ : ∃ B, w.heap.size = B := ⟨_, rfl⟩
      obtain ⟨w1, hw1⟩ : ∃ w1, w.alloc (.cells #[.string S, .bool false, .int .i64 0] VerT (0, 0)) = w1 := ⟨_, rfl⟩
      change Code.wp _ _ _ _ (w.alloc (.cells #[.string S, .bool false, .int .i64 0] VerT (0, 0)))
      rw [hw1] at hM ⊢
      rw [hB] at hM
      have hpost : ∀ W, Mem w [(B, .cells #[.string S, .bool false, .int .i64 0] VerT (0, 0))] W → Below w.heap.size w W := fun W h => h.below
      simp only [hB]
      clear hw1 hB
      refine wp_region_lit ?_
      refine wl_pure (v := .pointer (some ⟨B, 0, none⟩)) (fun W => run_field_of rfl rfl (fl_ver0 B W)) rfl ?_; simp only [nm0, nm1, nm2, nm3]
      refine wl_cell hM 0 (v := .string S) rfl rfl rfl rfl cellVS rfl ?_; simp only [nm0, nm1, nm2, nm3]
      refine wl_new hM (f := fun b => .slice (some ⟨b, 0, none⟩) 3 3) (ob := .cells #[.string ⟨#[101, 118, 101, 110, 116]⟩, .string S, .string ⟨#[111, 107]⟩] StT (0, 0)) (fun W => run_slice_of rfl (by simp [Act.eval]) (bs_St3 _ _ _ W)) rfl fun b W2 hM2 => ?_
      simp only [nm0, nm1, nm2, nm3]
      refine wl_call hM2.tail (v := .string R) (fun W => run_call_fn W (enters_of Tryd.func24 (by kernel_rfl) rfl) rfl (by simp [Act.eval, Act.put])) (KL.out b W2 (hM2.get 0 rfl)) rfl fun W3 hM3 => ?_
      simp only [nm0, nm1, nm2, nm3]
      refine wl_pure (v := .string R) (fun _ => rfl) rfl ?_; simp only [nm0, nm1, nm2, nm3]
      refine wpList_nil ?_
      go_wp2_with fail
      go_ret
      exact ⟨rfl, hpost _ hM3⟩
    · have KL : ∀ b W, W.heap[b]? = some (.cells #[.string ⟨#[101, 118, 101, 110, 116]⟩, .string S, .string ⟨#[114, 101, 100, 97, 99, 116, 101, 100]⟩] StT (0, 0)) → Calls Tryd.prog 24 #[.slice (some ⟨b, 0, none⟩) 3 3] W fun e w' => e = .returned (.string R) ∧ Below W.heap.size W w' := fun b W h => by
        rw [← eR]
        rw [← eS] at h
        exact line_any _ [evW, I, redW] W (TxS.row (L := [evW, I, redW]) h) (by show 3 ≤ 100; decide) (fun i => verd_few hI i (by simp [evW, redW, hI]))
      have KL := Lib.hid KL
      clear eS eR
      go_enter Tryd.func26, Tryd.ntmps26
      go_upto_region 4 with fail
      have hM := (Mem.start w).new1 (.cells #[.string S, .bool true, .int .i64 0] VerT (0, 0))
      obtain ⟨B, hB⟩ : ∃ B, w.heap.size = B := ⟨_, rfl⟩
      obtain ⟨w1, hw1⟩ : ∃ w1, w.alloc (.cells #[.string S, .bool true, .int .i64 0] VerT (0, 0)) = w1 := ⟨_, rfl⟩
      change Code.wp _ _ _ _ (w.alloc (.cells #[.string S, .bool true, .int .i64 0] VerT (0, 0)))
      rw [hw1] at hM ⊢
      rw [hB] at hM
      have hpost : ∀ W, Mem w [(B, .cells #[.string S, .bool true, .int .i64 0] VerT (0, 0))] W → Below w.heap.size w W := fun W h => h.below
      simp only [hB]
      clear hw1 hB
      refine wp_region_lit ?_
      refine wl_pure (v := .pointer (some ⟨B, 0, none⟩)) (fun W => run_field_of rfl rfl (fl_ver0 B W)) rfl ?_; simp only [nm0, nm1, nm2, nm3]
      refine wl_cell hM 0 (v := .string S) rfl rfl rfl rfl cellVS rfl ?_; simp only [nm0, nm1, nm2, nm3]
      refine wl_new hM (f := fun b => .slice (some ⟨b, 0, none⟩) 3 3) (ob := .cells #[.string ⟨#[101, 118, 101, 110, 116]⟩, .string S, .string ⟨#[114, 101, 100, 97, 99, 116, 101, 100]⟩] StT (0, 0)) (fun W => run_slice_of rfl (by simp [Act.eval]) (bs_St3 _ _ _ W)) rfl fun b W2 hM2 => ?_
      simp only [nm0, nm1, nm2, nm3]
      refine wl_call hM2.tail (v := .string R) (fun W => run_call_fn W (enters_of Tryd.func24 (by kernel_rfl) rfl) rfl (by simp [Act.eval, Act.put])) (KL.out b W2 (hM2.get 0 rfl)) rfl fun W3 hM3 => ?_
      simp only [nm0, nm1, nm2, nm3]
      refine wl_pure (v := .string R) (fun _ => rfl) rfl ?_; simp only [nm0, nm1, nm2, nm3]
      refine wpList_nil ?_
      go_wp2_with fail
      go_ret
      exact ⟨rfl, hpost _ hM3⟩
  · have hq : (E == 0) = false := by simpa using hE
    have hq2 : (E != 0) = true := by simp [bne, hq]
    obtain ⟨N, eN⟩ : ∃ N : ByteArray, showB E = N := ⟨_, rfl⟩
    have KN : ∀ W, Below w.heap.size w W → Calls Tryd.prog 56 #[.int .i64 E] W fun e w' => e = .returned (.string N) ∧ Below W.heap.size W w' := fun W hb => by
      rw [← eN]
      exact number_E E W h0 h1 (tab_low hT hb)
    have KL : ∀ b W, W.heap[b]? = some (.cells #[.string ⟨#[101, 118, 101, 110, 116]⟩, .string S, .string ⟨#[114, 101, 102, 117, 115, 101, 100]⟩, .string N] StT (0, 0)) → Calls Tryd.prog 24 #[.slice (some ⟨b, 0, none⟩) 4 4] W fun e w' => e = .returned (.string R) ∧ Below W.heap.size W w' := fun b W h => by
      rw [← eR, verdW, if_pos hE]
      rw [← eS, ← eN] at h
      exact line_any _ [evW, I, refW, Lib.itoa E] W (TxS.row (L := [evW, I, refW, Lib.itoa E]) h) (by show 4 ≤ 100; decide) (fun i => verd_few hI i (by have := itoa_few E h0 h1; simp [evW, refW]; omega))
    have KL := Lib.hid KL
    have KN := Lib.hid KN
    clear eS eR eN
    go_enter Tryd.func26, Tryd.ntmps26
    go_upto_region 2 with fail
    have hM := (Mem.start w).new1 (.cells #[.string S, .bool red, .int .i64 E] VerT (0, 0))
    have hb1 : Below w.heap.size w (w.alloc (.cells #[.string S, .bool red, .int .i64 E] VerT (0, 0))) := hM.below
    have KN2 : ∀ W, Below (w.alloc (.cells #[.string S, .bool red, .int .i64 E] VerT (0, 0))).heap.size (w.alloc (.cells #[.string S, .bool red, .int .i64 E] VerT (0, 0))) W → _ := fun W hb => KN.out W (gr_step hb1 hb)
    have KN2 := Lib.hid KN2
    have HB1 := Lib.hid hb1
    obtain ⟨B, hB⟩ : ∃ B, w.heap.size = B := ⟨_, rfl⟩
    obtain ⟨w1, hw1⟩ : ∃ w1, w.alloc (.cells #[.string S, .bool red, .int .i64 E] VerT (0, 0)) = w1 := ⟨_, rfl⟩
    rw [hw1, hB] at hM
    change Code.wp _ _ _ _ (w.alloc (.cells #[.string S, .bool red, .int .i64 E] VerT (0, 0)))
    rw [hw1] at KN2 HB1 ⊢
    have hpost : ∀ W, Below w1.heap.size w1 W → Below w.heap.size w W := fun W hb => gr_step HB1.out hb
    simp only [hB]
    clear hb1 HB1 hw1 hB KN
    refine wp_region_inw 8 hm (by decide) (by kernel_rfl) (by kernel_rfl) ?_
    refine inw_pure (v := .pointer (some ⟨B, 0, none⟩)) (fun W => run_field_of rfl rfl (fl_ver0 B W)) rfl rfl ?_; simp only [nm0, nm1, nm2, nm3]
    refine inw_cell hM 0 (v := .string S) rfl rfl rfl rfl cellVS rfl rfl ?_; simp only [nm0, nm1, nm2, nm3]
    refine inw_pure (v := .pointer (some ⟨B, 2, none⟩)) (fun W => run_field_of rfl rfl (fl_ver2 B W)) rfl rfl ?_; simp only [nm0, nm1, nm2, nm3]
    refine inw_cell hM 0 (v := .int .i64 E) rfl rfl rfl rfl cellVE rfl rfl ?_; simp only [nm0, nm1, nm2, nm3]
    refine inw_callV (args := #[.int .i64 E]) (v := .string N) (fun W => run_call_fn W (enters_of Tryd.func56 (by kernel_rfl) rfl) rfl (by simp [Act.eval])) (fun W hb => KN2.out W hb) rfl rfl ?_; simp only [nm0, nm1, nm2, nm3]
    refine inw_slice (n := 4) (L := #[.string ⟨#[101, 118, 101, 110, 116]⟩, .string S, .string ⟨#[114, 101, 102, 117, 115, 101, 100]⟩, .string N]) (T := StT) (fun W => run_slice_of rfl (by simp [Act.eval]) (bs_St4 _ _ _ _ W)) rfl rfl ?_; simp only [List.nil_append, List.cons_append]
    refine inw_callS 5 12 (v := .string R) rfl rfl (fun _ => rfl) (fun b W => run_call_fn W (enters_of Tryd.func24 (by kernel_rfl) rfl) rfl (by simp [Act.eval, Act.put])) (fun b W h => KL.out b W h) ?_; simp only [nm0, nm1, nm2, nm3]
    refine inw_pure (v := .string R) (fun _ => rfl) rfl rfl ?_; simp only [nm0, nm1, nm2, nm3]
    refine inw_fin fun d os => ?_
    refine given_mk (t := 12) rfl fun s1 => ?_
    refine given_nil fun hap => ?_
    simp only [nm0, nm1, nm2, nm3] at hap ⊢
    have hb8 := hpost _ (below_regrown w1 d os)
    clear hap
    generalize Sort.grow (redrawn w1 d) os = W8 at hb8 ⊢
    refine wpAny_done (by kernel_rfl) ?_ _
    go_wp2_with fail
    go_ret
    exact ⟨rfl, hb8⟩
end Go.Proofs.YtdnkpclpcelbaaaDoor
