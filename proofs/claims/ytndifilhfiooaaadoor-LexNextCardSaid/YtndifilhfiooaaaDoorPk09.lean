/- lex (layer 6): the word behind the blanks. A range over a function that tells a list which is known, left early or not; its iterator may have blocks of its own, which a round leaves alone. No program in it. lex (layer 6): tokens: the iterator. A range over a function that tells a list which is known, and whose rounds are each gone through to their end: of each round it is known that its element is the list's next one. No program in it. A region that draws its order, in a round of a range over a function: the walk of the plain calculus serves. No program in it. Regions in a round of a range over a function, walked by the plain calculus; rows of a call's own beside what it lists. No program in it. -/
import Derived.RangeFuncFrom
import Derived.RangeFuncNested
import Derived.Shelf.Abstract
import Derived.Shelf.RegionOpen
import Derived.RangeFuncBound
import Derived.RangeFuncCalls
import Derived.RangeFuncLeaves
import Derived.OwnWalkIn
import Derived.TacticsInMore
import Derived.LoopNIn
import Derived.LoopIn
import Derived.OrdersIn
import Derived.Test.YtndifilhfiooaaaDoorPk08
import Derived.Test.YtndifilhfiooaaaDoorPk01
import Derived.Test.YtndifilhfiooaaaDoorPk04
namespace Go.Proofs.YtndifilhfiooaaaDoor
set_option maxRecDepth 20000
set_option linter.unusedSimpArgs false
set_option linter.unusedVariables false
open Go.RowKit Go.Lib Go.Shelf Go.Sort
attribute [local go_sem] Oper.semAt_some
theorem bx_Book (m n : Nat) (W : World) : (Instr.box BookT (.agg #[.map (some m), .map (some n)])).run Tryd.prog W = .ok (.pointer (some ⟨W.heap.size, 0, none⟩)) (W.alloc (.cells #[.map (some m), .map (some n)] BookT (0, 0))) := by go_simp
theorem bd_Tok1 (k : Int) (W : World) : (Instr.build TokT #[(1, .int .i64 k)]).run Tryd.prog W = .ok (.agg #[.int .i64 0, .int .i64 k, .int .i64 0, .int .i64 0, .string ByteArray.empty]) W := by kernel_rfl
theorem resBT {P : Program} {w : World} {fn : Func} {tmps : Array Value} {v1 u : Value} {a1 t1 b1 s : Nat} (h : fn.results = #[.cell a1 t1, .tmp s]) (h1 : tmps.getD a1 undef = .pointer (some ⟨b1, 0, none⟩)) (h2 : tmps.getD s undef = u) (l1 : (loadVar t1 ⟨b1, 0, none⟩).run P w = .ok v1 w) : (results fn tmps).run P w = .ok (.tuple #[v1, u]) w := by
  have g1 : tmps[a1]?.getD undef = .pointer (some ⟨b1, 0, none⟩) := by simpa using h1
  have g2 : tmps[s]?.getD undef = u := by simpa using h2
  simp [results, h, g1, g2, asAddr, l1]
theorem mem_oth {w0 w w' : World} {M : List Blk} {p : Nat} {o : Obj} (h : Mem w0 ((p, o) :: M) w) (ho : Oth p w w') : Mem w0 M w' := by
  have hp := h.low (p, o) (List.mem_cons_self ..)
  simp only at hp
  refine ⟨?_, fun x hx => h.low x (List.mem_cons_of_mem _ hx), (List.pairwise_cons.1 h.nod).2, fun x hx => ?_⟩
  · exact h.below.trans (ho.low hp h.below.size)
  · have hne : x.1 ≠ p := fun e => (List.pairwise_cons.1 h.nod).1 x hx e.symm
    exact (ho.block x.1 (h.lt (List.mem_cons_of_mem _ hx)) hne).trans (h.at_ x (List.mem_cons_of_mem _ hx))
theorem mem_oth2 {w0 w w' : World} {M : List Blk} {p : Nat} {o o' : Obj} (h : Mem w0 ((p, o) :: M) w) (ho : Oth p w w') (hp' : w'.heap[p]? = some o') : Mem w0 ((p, o') :: M) w' := by
  have h2 := mem_oth h ho
  refine ⟨h2.below, fun x hx => ?_, ?_, fun x hx => ?_⟩
  · rcases List.mem_cons.1 hx with rfl | hx
    · exact h.low (p, o) (List.mem_cons_self ..)
    · exact h2.low x hx
  · exact List.pairwise_cons.2 ⟨fun x hx => (List.pairwise_cons.1 h.nod).1 x hx, h2.nod⟩
  · rcases List.mem_cons.1 hx with rfl | hx
    · exact hp'
    · exact h2.at_ x hx
theorem Mem.oth0 {w0 w : World} {M : List Blk} (h : Mem w0 M w) {p : Nat} (hT : Tabs w0) (hp : w0.heap.size ≤ p) : TabsO p w := by
  have h2 := tabs_size hT
  exact ⟨tabs_low h2 hT h.below, by have := h2.1; omega, by have := h2.2; omega⟩
set_option maxRecDepth 100000 in
set_option maxHeartbeats 8000000 in
theorem lnext_any (t : ByteArray) (a m n : Nat) (w : World) (hb : Books m n w) (ht : t.size ≤ 100000) (ha : a ≤ t.size) (hT : Tabs w) :
    Calls Tryd.prog 14 #[.agg #[.map (some m), .map (some n)], .string t, .int .i64 (a : Int)] w fun e w' => e = .returned (.tuple #[.agg (tokA (wordT t (blk t a)).1), .int .i64 ((wordT t (blk t a)).2 : Int)]) ∧ Below w.heap.size w w' := by
  obtain ⟨hml, hnl⟩ := hb.lt
  have hM0 := Mem.start w
  obtain ⟨f, hf⟩ : ∃ f, blk t a = f := ⟨_, rfl⟩
  have hfl : f ≤ t.size := by rw [← hf]; exact (blk_ge t _ a rfl).2.1 ha
  obtain ⟨X, E, hX⟩ : ∃ X E, wordT t f = (X, E) := ⟨_, _, rfl⟩
  have KR := Lib.hid (fun p w hb hp hT hmp hnp => read_any t f m n p w hb hp ht hfl hT hmp hnp)
  rw [hf, hX]
  rw [hX] at KR
  have hX2 : E ≠ 0 → X = tok0 f := fun h => by have := (word_in hfl).2.2.2 (by rw [hX]; exact h); rwa [hX] at this
  have HF := Lib.hid hf
  have HX2 := Lib.hid hX2
  clear hf hX hX2
  go_enter Tryd.func14, Tryd.ntmps14
  go_upto_region 0 with fail
  refine wp_region_lit ?_
  refine wl_new hM0 (f := fun b => .pointer (some ⟨b, 0, none⟩)) (ob := .cells #[.map (some m), .map (some n)] BookT (0, 0)) (fun W => run_box_of rfl rfl (bx_Book m n W)) rfl fun q W1 hM1 => ?_
  simp only [nm0, nm1, nm2, nm3]
  refine wl_new hM1 (f := fun b => .pointer (some ⟨b, 0, none⟩)) (fun W => run_alloc_of rfl (al_Tok W)) rfl fun r W2 hM2 => ?_
  simp only [nm0, nm1, nm2, nm3]
  refine wl_pure (v := .int .i64 0) (fun W => rfl) rfl ?_
  simp only [nm0, nm1, nm2, nm3]
  refine wpList_nil ?_
  clear hM0 hM1
  go_wp2_with fail
  go_loop [2] (fun p => ∃ k : Nat, p = .int .i64 (k : Int) ∧ k ≤ t.size ∧ blk t k = f) (fun p => t.size - (Go.RowKit.intOf p).toNat)
  case atStart => exact ⟨a, rfl, ha, HF.out⟩
  case round =>
    obtain ⟨k, rfl, hk, hbk⟩ := hrel
    by_cases hlt : k < t.size
    · have p1 : (k : Int) < (t.size : Int) := by omega
      have natk : (k : Int).toNat = k := by omega
      obtain ⟨c, hc⟩ : ∃ c, gb t k = c := ⟨_, rfl⟩
      have hcl : c < 256 := by rw [← hc]; exact gb_lt t k
      have gk := (gb_at t k hlt).trans hc
      have is := idx_blank ⟨c, hcl⟩
      simp only at is
      obtain ⟨z, hz⟩ : ∃ z, Lib.indexByte [9, 10, 13, 32] (c : Int).toNat.toUInt8 = z := ⟨_, rfl⟩
      have KI := Lib.hid (show ∀ w, Calls Tryd.prog 21 #[.string ⟨#[9, 10, 13, 32]⟩, .int .u8 (c : Int)] w fun e w' => e = .returned (.int .i64 z) ∧ w' = w from fun w => by rw [← hz]; exact Tryd.strings_IndexByte _ _ w)
      rw [hz] at is
      clear hz
      cases hB : isB c with
      | true =>
        rw [hB] at is
        have p2 : (0 : Int) ≤ z := of_decide_eq_true is
        have w1 : IntKind.i64.wrap ((k : Int) + 1) = (k : Int) + 1 := IntWalk.i64_in _ (by omega)
        have HR := Lib.hid (show blk t (k + 1) = f by rw [← hbk]; exact (blk_more hlt (by rw [hc]; exact hB)).symm)
        clear is hbk hB
        go_wp2_with fail
        refine (KI.out _).mono ?_
        rintro e w5 ⟨rfl, rfl⟩
        go_wp2_with fail
        go_round
        case rel => exact ⟨k + 1, congrArg (Value.int .i64) (by omega), hlt, HR.out⟩
        case measure => simp [Go.RowKit.intOf]; omega
      | false =>
        rw [hB] at is
        have p2 : ¬ (0 : Int) ≤ z := of_decide_eq_false is
        have hkf : k = f := by rw [← hbk]; exact (blk_stop (by rw [hc, hB]; simp)).symm
        subst hkf
        clear is hbk hB
        go_wp2_with fail
        refine (KI.out _).mono ?_
        rintro e w5 ⟨rfl, rfl⟩
        go_upto_region 3 with fail
        refine wp_region_lit ?_
        refine wl_pure (v := .int .i64 (k : Int)) (fun W => rfl) rfl ?_
        simp only [nm0, nm1, nm2, nm3]
        refine wl_pure (v := .agg #[.int .i64 0, .int .i64 (k : Int), .int .i64 0, .int .i64 0, .string ByteArray.empty]) (fun W => run_build_of (ps := #[(1, .int .i64 (k : Int))]) rfl (by simp [Act.eval]) (bd_Tok1 _ W)) rfl ?_
        simp only [nm0, nm1, nm2, nm3]
        refine wl_new hM2 (f := fun b => .pointer (some ⟨b, 0, none⟩)) (fun W => run_alloc_of rfl (al_Tok W)) rfl fun p W3 hM3 => ?_
        simp only [nm0, nm1, nm2, nm3]
        refine wl_set hM3 0 (cs := #[.int .i64 0, .int .i64 (k : Int), .int .i64 0, .int .i64 0, .string ByteArray.empty]) rfl rfl rfl rfl rowTok rfl (by simp [Value.oneCell']) rfl rfl fun W4 hM4 => ?_
        simp only [nm2, nm3] at hM4
        refine wpList_nil ?_
        have hlp := hM4.low _ (List.mem_of_getElem? (i := 0) rfl)
        simp only at hlp
        go_upto_region 4 with fail
        refine wp_region_lit ?_
        refine wl_row hM4 2 (v := .agg #[.map (some m), .map (some n)]) rfl rfl rfl rfl rowBook rfl ?_
        simp only [nm0, nm1, nm2, nm3]
        refine wl_pure (v := .string t) (fun W => rfl) rfl ?_
        simp only [nm0, nm1, nm2, nm3]
        refine wl_callE (args := #[.agg #[.map (some m), .map (some n)], .string t, .pointer (some ⟨p, 0, none⟩)]) (fun W => run_call_fn W (enters_of Tryd.func22 (by kernel_rfl) rfl) rfl (by simp [Act.eval])) (KR.out p W4 (hb.keep (hM4.below.block m hml) (hM4.below.block n hnl)) (hM4.get 0 rfl) (hM4.oth0 hT hlp) (by omega) (by omega)) rfl ?_
        rintro e W5 ⟨rfl, ho5, hp5⟩
        refine ⟨_, rfl, ?_⟩
        simp only [nm0, nm1, nm2, nm3]
        refine wl_pure (v := .int .i64 (E : Int)) (fun W => rfl) rfl ?_
        simp only [nm0, nm1, nm2, nm3]
        refine wpList_nil ?_
        by_cases hE : E = 0
        · have p5 : (E : Int) = 0 := by omega
          have hM5 := mem_oth2 hM4 ho5 (hp5 hE)
          clear hp5 ho5 hM4 hM3 hM2
          subst hE
          go_upto_region 7 with fail
          refine wp_region_lit ?_
          refine wl_row hM5 0 (v := .agg (tokA X)) rfl rfl rfl rfl rowTok rfl ?_
          simp only [nm0, nm1, nm2, nm3]
          refine wl_set hM5 1 (cs := tokA X) rfl rfl rfl rfl rowTok rfl (by simp [tokA, Value.oneCell']) rfl rfl fun W6 hM6 => ?_
          simp only [nm2, nm3] at hM6
          refine wl_pure (v := .int .i64 0) (fun W => rfl) rfl ?_
          simp only [nm0, nm1, nm2, nm3]
          refine wpList_nil ?_
          go_wp2_with fail
          exact bodyPost_ret (resBT rfl rfl rfl (hM6.load 1 rfl rowTok)) rfl ⟨rfl, hM6.below⟩
        · have p5 : ((E : Int) == 0) = false := by simp; omega
          have p6 : ¬ (E : Int) = 0 := by omega
          have hM5 := mem_oth hM4 ho5
          clear hp5 ho5 hM4 hM3 hM2
          go_upto_region 6 with fail
          refine wp_region_lit ?_
          refine wl_pure (v := .int .i64 (k : Int)) (fun W => rfl) rfl ?_
          simp only [nm0, nm1, nm2, nm3]
          refine wl_pure (v := .agg #[.int .i64 0, .int .i64 (k : Int), .int .i64 0, .int .i64 0, .string ByteArray.empty]) (fun W => run_build_of (ps := #[(1, .int .i64 (k : Int))]) rfl (by simp [Act.eval]) (bd_Tok1 _ W)) rfl ?_
          simp only [nm0, nm1, nm2, nm3]
          refine wl_pure (v := .int .i64 (E : Int)) (fun W => rfl) rfl ?_
          simp only [nm0, nm1, nm2, nm3]
          refine wl_set hM5 0 (cs := #[.int .i64 0, .int .i64 (k : Int), .int .i64 0, .int .i64 0, .string ByteArray.empty]) rfl rfl rfl rfl rowTok rfl (by simp [Value.oneCell']) rfl rfl fun W6 hM6 => ?_
          simp only [nm2, nm3] at hM6
          refine wl_pure (v := .int .i64 (E : Int)) (fun W => rfl) rfl ?_
          simp only [nm0, nm1, nm2, nm3]
          refine wpList_nil ?_
          go_wp2_with fail
          rw [HX2.out hE]
          exact bodyPost_ret (resBT rfl rfl rfl (hM6.load 0 rfl rowTok)) rfl ⟨rfl, hM6.below⟩
    · have p1 : ¬ (k : Int) < (t.size : Int) := by omega
      have hkf : k = f := by rw [← hbk]; exact (blk_stop (fun h => hlt h.1)).symm
      subst hkf
      clear hbk
      go_upto_region 3 with fail
      refine wp_region_lit ?_
      refine wl_pure (v := .int .i64 (k : Int)) (fun W => rfl) rfl ?_
      simp only [nm0, nm1, nm2, nm3]
      refine wl_pure (v := .agg #[.int .i64 0, .int .i64 (k : Int), .int .i64 0, .int .i64 0, .string ByteArray.empty]) (fun W => run_build_of (ps := #[(1, .int .i64 (k : Int))]) rfl (by simp [Act.eval]) (bd_Tok1 _ W)) rfl ?_
      simp only [nm0, nm1, nm2, nm3]
      refine wl_new hM2 (f := fun b => .pointer (some ⟨b, 0, none⟩)) (fun W => run_alloc_of rfl (al_Tok W)) rfl fun p W3 hM3 => ?_
      simp only [nm0, nm1, nm2, nm3]
      refine wl_set hM3 0 (cs := #[.int .i64 0, .int .i64 (k : Int), .int .i64 0, .int .i64 0, .string ByteArray.empty]) rfl rfl rfl rfl rowTok rfl (by simp [Value.oneCell']) rfl rfl fun W4 hM4 => ?_
      simp only [nm2, nm3] at hM4
      refine wpList_nil ?_
      have hlp := hM4.low _ (List.mem_of_getElem? (i := 0) rfl)
      simp only at hlp
      go_upto_region 4 with fail
      refine wp_region_lit ?_
      refine wl_row hM4 2 (v := .agg #[.map (some m), .map (some n)]) rfl rfl rfl rfl rowBook rfl ?_
      simp only [nm0, nm1, nm2, nm3]
      refine wl_pure (v := .string t) (fun W => rfl) rfl ?_
      simp only [nm0, nm1, nm2, nm3]
      refine wl_callE (args := #[.agg #[.map (some m), .map (some n)], .string t, .pointer (some ⟨p, 0, none⟩)]) (fun W => run_call_fn W (enters_of Tryd.func22 (by kernel_rfl) rfl) rfl (by simp [Act.eval])) (KR.out p W4 (hb.keep (hM4.below.block m hml) (hM4.below.block n hnl)) (hM4.get 0 rfl) (hM4.oth0 hT hlp) (by omega) (by omega)) rfl ?_
      rintro e W5 ⟨rfl, ho5, hp5⟩
      refine ⟨_, rfl, ?_⟩
      simp only [nm0, nm1, nm2, nm3]
      refine wl_pure (v := .int .i64 (E : Int)) (fun W => rfl) rfl ?_
      simp only [nm0, nm1, nm2, nm3]
      refine wpList_nil ?_
      by_cases hE : E = 0
      · have p5 : (E : Int) = 0 := by omega
        have hM5 := mem_oth2 hM4 ho5 (hp5 hE)
        clear hp5 ho5 hM4 hM3 hM2
        subst hE
        go_upto_region 7 with fail
        refine wp_region_lit ?_
        refine wl_row hM5 0 (v := .agg (tokA X)) rfl rfl rfl rfl rowTok rfl ?_
        simp only [nm0, nm1, nm2, nm3]
        refine wl_set hM5 1 (cs := tokA X) rfl rfl rfl rfl rowTok rfl (by simp [tokA, Value.oneCell']) rfl rfl fun W6 hM6 => ?_
        simp only [nm2, nm3] at hM6
        refine wl_pure (v := .int .i64 0) (fun W => rfl) rfl ?_
        simp only [nm0, nm1, nm2, nm3]
        refine wpList_nil ?_
        go_wp2_with fail
        exact bodyPost_ret (resBT rfl rfl rfl (hM6.load 1 rfl rowTok)) rfl ⟨rfl, hM6.below⟩
      · have p5 : ((E : Int) == 0) = false := by simp; omega
        have p6 : ¬ (E : Int) = 0 := by omega
        have hM5 := mem_oth hM4 ho5
        clear hp5 ho5 hM4 hM3 hM2
        go_upto_region 6 with fail
        refine wp_region_lit ?_
        refine wl_pure (v := .int .i64 (k : Int)) (fun W => rfl) rfl ?_
        simp only [nm0, nm1, nm2, nm3]
        refine wl_pure (v := .agg #[.int .i64 0, .int .i64 (k : Int), .int .i64 0, .int .i64 0, .string ByteArray.empty]) (fun W => run_build_of (ps := #[(1, .int .i64 (k : Int))]) rfl (by simp [Act.eval]) (bd_Tok1 _ W)) rfl ?_
        simp only [nm0, nm1, nm2, nm3]
        refine wl_pure (v := .int .i64 (E : Int)) (fun W => rfl) rfl ?_
        simp only [nm0, nm1, nm2, nm3]
        refine wl_set hM5 0 (cs := #[.int .i64 0, .int .i64 (k : Int), .int .i64 0, .int .i64 0, .string ByteArray.empty]) rfl rfl rfl rfl rowTok rfl (by simp [Value.oneCell']) rfl rfl fun W6 hM6 => ?_
        simp only [nm2, nm3] at hM6
        refine wl_pure (v := .int .i64 (E : Int)) (fun W => rfl) rfl ?_
        simp only [nm0, nm1, nm2, nm3]
        refine wpList_nil ?_
        go_wp2_with fail
        rw [HX2.out hE]
        exact bodyPost_ret (resBT rfl rfl rfl (hM6.load 0 rfl rowTok)) rfl ⟨rfl, hM6.below⟩
end Go.Proofs.YtndifilhfiooaaaDoor
namespace Go.Proofs.YtndifilhfiooaaaDoor
set_option maxRecDepth 20000
set_option linter.unusedSimpArgs false
set_option linter.unusedVariables false
open Go.RowKit
variable {F : Fence} {n : Nat} {P : Program}
/-- An iterator that tells L, to whoever takes what he likes of it, and keeps what Inv asks of worlds between rounds. -/
def SeqX {α : Type} (F : Fence) (n : Nat) (P : Program) (g : Nat) (lb : Array Value) (encs : α → Array Value) (Inv : World → Prop) (Kp : World → World → Prop) (L : List α) (w : World) : Prop :=
  ∀ (l : Nat) (J Jx : List α → World → Prop) (W : World), Below w.heap.size w W → OwnFrom W.heap.size J → OwnFrom W.heap.size Jx → (∀ pre W1, J pre W1 → Inv W1) →
    (∀ pre x W1, J pre W1 → pre ++ [x] <+: L → YieldAt F (n - 1) P l (encs x) W1 fun e W' => (e = .returned (.bool true) ∧ J (pre ++ [x]) W' ∧ Kp W1 W') ∨ (e = .returned (.bool false) ∧ Jx (pre ++ [x]) W' ∧ KeepsFrom W.heap.size W1 W')) →
    J [] W → CallsIn F n P g (#[.func (.yield l) #[] #[]] ++ lb) W fun e W' => (∃ v, e = .returned v) ∧ (J L W' ∨ ∃ pre x, pre ++ [x] <+: L ∧ Jx (pre ++ [x]) W')
theorem wpIn_range_x {α : Type} {g : Operand} {ps : Array Tmp} {assign body : Code} {Q : Exit → Act → World → Prop} {a : Act} {w : World}
    (hro : F.round = none) (h1 : 1 ≤ n) {gf : Nat} {lb : Array Value} (hg : a.eval g = .func (.func gf) #[] lb) (hFg : F.fn gf) (eg : ∀ args w, (callFunc gf args).run P w = .ok (.enter gf args) w)
    {encs : α → Array Value} {Inv : World → Prop} {Kp : World → World → Prop} {L : List α} {w0 : World} (hseq : SeqX F (n - 1) P gf lb encs Inv Kp L w0)
    (hKt : ∀ {A B C : World}, Kp A B → Kp B C → Kp A C) (hKb : ∀ (W : World) (r r' : Loop), W.heap[w.heap.size + 1]? = some (.loop r) → Kp W (W.putObj (w.heap.size + 1) (.loop r'))) (hb0 : Below w0.heap.size w0 w) (hps : ∀ x, (encs x).size = ps.size)
    (I : List α → World → Prop) (Ix : Code → List α → World → Prop) (hI : OwnFrom w.heap.size I) (hIx : ∀ c, OwnFrom w.heap.size (Ix c)) (hInv : ∀ pre W, I pre W → w.heap.size + 1 < W.heap.size → Inv W) (h0 : I [] w)
    (Ax : α → Act → World → Prop) (hAx : ∀ x a', OwnFrom w.heap.size (fun (_ : Unit) W => Ax x a' W))
    (hassign : ∀ (l : Nat) (pre : List α) (x : α) (W : World) (K : Act → World → Prop), I pre W → pre ++ [x] <+: L → (∀ a' W', KeepsFrom w.heap.size W W' → Kp W W' → I pre W' → Ax x a' W' → K a' W') →
      assign.wpIn (F.inRound l) (n - 1 - 1) P (Exit.then K (fun _ _ _ => False)) { tmps := (ps.zip (encs x)).foldl (fun t (p, v) => t.setIfInBounds p v) a.tmps, defers := [] } W)
    (hbody : ∀ (l : Nat) (pre : List α) (x : α) (a' : Act) (W : World), w.heap.size ≤ l → (∃ r, W.heap[l]? = some (.loop r)) → I pre W → Ax x a' W → pre ++ [x] <+: L → body.wpIn (F.inRound l) (n - 1 - 1) P (ownPostG w.heap.size Kp I Ix (pre ++ [x]) W) a' W)
    (hdone : ∀ (D : Nat) (W : World), w.heap.size ≤ D → I L W → W.heap[D]? = some (.deferred (some [])) → Q .normal { a with defers := { target := .collected D, args := #[] } :: a.defers } W)
    (hstop : ∀ (D : Nat) (c : Code) (pre : List α) (x : α) (W : World), w.heap.size ≤ D → pre ++ [x] <+: L → Ix c (pre ++ [x]) W → W.heap[D]? = some (.deferred (some [])) → c.wpIn F n P Q { a with defers := { target := .collected D, args := #[] } :: a.defers } W) :
    (Code.rangeFunc g ps assign body).wpIn F n P Q a w := by
  refine wpIn_rangeFunc fun fn hfn => ?_
  rw [hro]
  obtain ⟨D, hD⟩ : ∃ D, w.heap.size = D := ⟨_, rfl⟩
  -- the loop's record, in its states
  obtain ⟨rec, hrec⟩ : ∃ rec : LoopState → Option Code → Loop, rec = fun st pe => { state := st, pending := pe, fn, tmps := a.tmps, params := ps, assign, body, defers := D } := ⟨_, rfl⟩
  obtain ⟨W1, hW1⟩ : ∃ W1, (w.alloc (.deferred (some []))).alloc (.loop (rec .ready none)) = W1 := ⟨_, rfl⟩
  have hrun := run_enterLoop_outer (P := P) (w := w) fn a.tmps ps assign body
  rw [hD] at hrun
  have hz1 : W1.heap.size = D + 2 := by rw [← hW1, ← hD]; simp
  have hl1 : W1.heap[D + 1]? = some (.loop (rec .ready none)) := by
    have := World.alloc_heap_new (w.alloc (.deferred (some []))) (.loop (rec .ready none))
    rw [World.size_alloc, hW1, hD] at this
    exact this
  have hk1 : W1.heap[D]? = some (.deferred (some [])) := by
    rw [← hW1, ← hD]
    exact (Below.heap_alloc _ _ _ (by simp)).trans (World.alloc_heap_new w _)
  have hb1 : Below w0.heap.size w0 W1 := by
    rw [← hW1]
    exact hb0.trans ((((Below.refl _ w).alloc (Nat.le_refl _) _).alloc (by simp) _).mono hb0.size)
  have hI1 : I [] W1 := by rw [← hW1]; exact hI.alloc _ (hI.alloc _ h0)
  rw [hD] at hI hIx hAx hKb hInv hdone hstop hbody hassign
  -- what stays while the iterator goes on
  have far : ∀ {A : World} {row : Option Nat}, (∀ r, row = some r → W1.heap.size ≤ r ∧ ∃ o : Obj, A.heap[r]? = some o ∧ o.isCells = false) → ∀ r, row = some r → D ≤ r ∧ ∃ o : Obj, A.heap[r]? = some o ∧ o.isCells = false := fun hr r e => by
    obtain ⟨hB, o, ho, hw⟩ := hr r e
    exact ⟨by omega, o, ho, hw⟩
  have stay : ∀ {A B : World} {row : Option Nat} {k : Nat} {ob : Obj}, A.grownBy B row → (∀ r, row = some r → W1.heap.size ≤ r ∧ ∃ o : Obj, A.heap[r]? = some o ∧ o.isCells = false) → k < D + 2 → A.heap[k]? = some ob → B.heap[k]? = some ob := fun hg hr hk h =>
    (hg.block _ (Array.getElem?_eq_some_iff.1 h).1 (fun e => by have := (hr _ e.symm).1; omega)).trans h
  refine ⟨D + 1, [{ target := .collected D, args := #[] }], W1, { target := .fn (.func gf) lb, args := #[.func (.yield (D + 1)) #[] #[]] }, W1, gf, #[.func (.yield (D + 1)) #[] #[]] ++ lb, W1, ?_, ?_, ?_, ?_, fun _ => h1, ?_⟩
  · rw [hrun, ← hW1, hrec]
  · simp only [resolve, hg]
    simp [go_sem]
  · intro f' hf'
    simp [Target.leads] at hf'
    subst hf'
    exact hFg
  · simp [invoke, go_sem, eg]
  refine (hseq (D + 1) (fun pre W => I pre W ∧ W.heap[D + 1]? = some (.loop (rec .ready none)) ∧ W.heap[D]? = some (.deferred (some [])))
    (fun pre W => ∃ c, Ix c pre W ∧ W.heap[D + 1]? = some (.loop (rec .done (some c))) ∧ W.heap[D]? = some (.deferred (some []))) W1 hb1
    (fun pre A B row h hg hr => ⟨hI pre A B row h.1 hg (far hr), stay hg hr (by omega) h.2.1, stay hg hr (by omega) h.2.2⟩)
    (fun pre A B row h hg hr => by
      obtain ⟨c, i1, i2, i3⟩ := h
      exact ⟨c, hIx c pre A B row i1 hg (far hr), stay hg hr (by omega) i2, stay hg hr (by omega) i3⟩)
    (fun pre W h => hInv pre W h.1 (Array.getElem?_eq_some_iff.1 h.2.1).1) ?_ ⟨hI1, hl1, hk1⟩).mono ?_
  · rintro pre x W ⟨hi, hl, hk⟩ hx
    have hlt : D + 1 < W.heap.size := (Array.getElem?_eq_some_iff.1 hl).1
    have hy := run_yield (P := P) (args := encs x) hl (by rw [hrec]; exact hps x)
    rw [hrec] at hy
    refine ⟨fn, _, assign, body, hy, roundIn_of_wpIn hfn (hassign _ pre x W _ hi hx fun a' Wa ka qa ia xa => ?_)⟩
    have hla := ka.same _ _ (by omega) hl rfl
    have hka := ka.same _ _ (Nat.le_refl _) hk rfl
    have hlt2 : D + 1 < Wa.heap.size := (Array.getElem?_eq_some_iff.1 hla).1
    refine ⟨_, run_beginRound hla (by rw [hrec]), ?_⟩
    obtain ⟨W2, hW2⟩ : ∃ W2, Wa.putObj (D + 1) (.loop { rec .ready none with state := .busy }) = W2 := ⟨_, rfl⟩
    have hl2 : W2.heap[D + 1]? = some (.loop { rec .ready none with state := .busy }) := by rw [← hW2]; exact World.putObj_heap_same hlt2
    have hk2 : W2.heap[D]? = some (.deferred (some [])) := by rw [← hW2]; exact (World.putObj_heap_other (by omega)).trans hka
    have hi2 : I pre W2 := by rw [← hW2]; exact hI.putObj _ ia (by omega) hla rfl
    have hq2 : Kp W W2 := by rw [← hW2]; exact hKt qa (hKb _ _ _ hla)
    have hx2 : Ax x a' W2 := by rw [← hW2]; exact (hAx x a').putObj (s := ()) _ xa (by omega) hla rfl
    rw [hW2]
    -- the round's end, with a jump or none
    have fin : ∀ (j : Option Code) (W3 : World), KeepsFrom D W2 W3 → (Instr.endRound (D + 1) j).run P W3 = .ok (.bool j.isNone) (W3.putObj (D + 1) (.loop (rec (if j.isNone then .ready else .done) j))) ∧ W3.heap[D + 1]? = some (.loop { rec .ready none with state := .busy }) ∧
        (W3.putObj (D + 1) (.loop (rec (if j.isNone then .ready else .done) j))).heap[D + 1]? = some (.loop (rec (if j.isNone then .ready else .done) j)) ∧ (W3.putObj (D + 1) (.loop (rec (if j.isNone then .ready else .done) j))).heap[D]? = some (.deferred (some [])) := fun j W3 h3 => by
      have hl3 := h3.same _ _ (by omega) hl2 rfl
      have hend := run_endRound (P := P) j hl3
      refine ⟨?_, hl3, World.putObj_heap_same (Array.getElem?_eq_some_iff.1 hl3).1, (World.putObj_heap_other (by omega)).trans (h3.same _ _ (Nat.le_refl _) hk2 rfl)⟩
      rw [hend, hrec]
    have low : ∀ (W3 : World) (l' : Loop), KeepsFrom D W2 W3 → KeepsFrom W1.heap.size W (W3.putObj (D + 1) (.loop l')) := fun W3 l' h3 => by
      have hs2 : W2.heap.size = Wa.heap.size := by rw [← hW2]; simp [World.putObj]
      have hs3 : (W3.putObj (D + 1) (.loop l')).heap.size = W3.heap.size := by simp [World.putObj]
      refine ⟨by have := ka.size; have := h3.size; omega, fun k o hk ho hcl => ?_⟩
      rw [World.putObj_heap_other (by omega)]
      refine h3.same k o (by omega) ?_ hcl
      rw [← hW2, World.putObj_heap_other (by omega)]
      exact ka.same k o (by omega) ho hcl
    refine wpIn_mono (hbody _ pre x a' W2 (by omega) ⟨_, hl2⟩ hi2 hx2 hx) fun e a3 W3 hp => ?_
    match e, hp with
    | .normal, ⟨k3, q3, i3⟩ =>
      obtain ⟨hr, hl3, hl4, hk4⟩ := fin none W3 k3
      exact ⟨_, _, hr, .inl ⟨rfl, ⟨hI.putObj _ i3 (by omega) hl3 rfl, hl4, hk4⟩, hKt (hKt hq2 q3) (hKb _ _ _ hl3)⟩⟩
    | .ret, ⟨k3, i3⟩ =>
      obtain ⟨hr, hl3, hl4, hk4⟩ := fin (some .ret) W3 k3
      exact ⟨_, _, hr, .inr ⟨rfl, ⟨_, (hIx _).putObj _ i3 (by omega) hl3 rfl, hl4, hk4⟩, low _ _ k3⟩⟩
    | .exit id, ⟨k3, i3⟩ =>
      obtain ⟨hr, hl3, hl4, hk4⟩ := fin (some (.exit id)) W3 k3
      exact ⟨_, _, hr, .inr ⟨rfl, ⟨_, (hIx _).putObj _ i3 (by omega) hl3 rfl, hl4, hk4⟩, low _ _ k3⟩⟩
    | .goto u, ⟨k3, i3⟩ =>
      obtain ⟨hr, hl3, hl4, hk4⟩ := fin (some (.goto u)) W3 k3
      exact ⟨_, _, hr, .inr ⟨rfl, ⟨_, (hIx _).putObj _ i3 (by omega) hl3 rfl, hl4, hk4⟩, low _ _ k3⟩⟩
  · rintro e W2 ⟨⟨v, rfl⟩, ⟨hi, hl, hk⟩ | ⟨pre, x, hx, c, hi, hl, hk⟩⟩
    · have hend := run_endLoop (P := P) hl (by rw [hrec]; simp)
      exact ⟨none, _, by rw [hend, hrec], hdone D _ (Nat.le_refl _) (hI.putObj _ hi (by omega) hl rfl) ((World.putObj_heap_other (by omega)).trans hk)⟩
    · have hend := run_endLoop (P := P) hl (by rw [hrec]; simp)
      exact ⟨some c, _, by rw [hend, hrec], hstop D c pre x _ (Nat.le_refl _) hx ((hIx c).putObj _ hi (by omega) hl rfl) ((World.putObj_heap_other (by omega)).trans hk)⟩
/-- What a round keeps: whatever isn't its own. -/
def KpF (Fr : World → Nat → Prop) (A B : World) : Prop := A.heap.size ≤ B.heap.size ∧ ∀ k ob, A.heap[k]? = some ob → Fr A k → B.heap[k]? = some ob ∧ Fr B k
theorem kpF_t {Fr : World → Nat → Prop} {A B C : World} (h : KpF Fr A B) (k : KpF Fr B C) : KpF Fr A C :=
  ⟨Nat.le_trans h.1 k.1, fun i ob hi hf => k.2 i ob (h.2 i ob hi hf).1 (h.2 i ob hi hf).2⟩
/-- What is free of whoever ranges stays so, while others only make blocks. -/
def FrUp (Inv : World → Prop) (Fr : World → Nat → Prop) : Prop := ∀ A B k, Inv A → Below A.heap.size A B → (k < A.heap.size → Fr A k) → Fr B k
end Go.Proofs.YtndifilhfiooaaaDoor
namespace Go.Proofs.YtndifilhfiooaaaDoor
set_option maxRecDepth 20000
set_option linter.unusedSimpArgs false
set_option linter.unusedVariables false
open Go.RowKit Go.Lib Go.Shelf Go.Sort
attribute [local go_sem] Oper.semAt_some
section
variable {P : Program} {w w0 : World} {ops : Array Oper} {Q : Exit → Act → World → Prop} {o : Oper} {rest : List Oper} {A : Act}
theorem lw_val {v : Value} (h : (execOp A.eval o).run P w = .ok (.value v) w) (hgd : Region.wanted o (yielded ops A.tmps) = true) (hr : wpList P ops Q rest (A.put o.dst v) w) : wpList P ops Q (o :: rest) A w := by
  refine wpList_step fun K hK => ?_
  rw [if_pos hgd]
  unfold Oper.wp
  rw [h]
  exact hK _ _ hr
end
theorem cellStr : CellTy Tryd.prog 9 := ⟨⟨_, Tryd.underlying9, rfl⟩, by kernel_rfl⟩
theorem cellInt : CellTy Tryd.prog 3 := ⟨⟨_, Tryd.underlying3, rfl⟩, by kernel_rfl⟩
abbrev g3 : Nat := Tryd.lays197_ren.g 3
abbrev g4 : Nat := Tryd.lays197_ren.g 4
theorem tabs_blocks {A B : World} (h : Tabs A) (h3 : B.heap[g3]? = A.heap[g3]?) (h4 : B.heap[g4]? = A.heap[g4]?) : Tabs B := by
  refine ⟨fun c hc => ?_, fun i hi => ⟨?_, ?_⟩⟩
  · rw [World.cell?_of_block h3]; exact h.1 c hc
  · rw [World.cell?_of_block h4]; exact (h.2 i hi).1
  · rw [World.cell?_of_block h4]; exact (h.2 i hi).2
/-- What the iterator holds between rounds. -/
structure ItS (t : ByteArray) (Bs bk m n : Nat) (Fr : World → Nat → Prop) (W : World) : Prop where
  tabs : Tabs W
  f3 : Fr W g3
  f4 : Fr W g4
  txt : W.heap[Bs]? = some (.cells #[.string t] 9 (0, 0))
  fb : Fr W Bs
  bkk : W.heap[bk]? = some (.cells #[.map (some m), .map (some n)] BookT (0, 0))
  fk : Fr W bk
  books : Books m n W
  fm : Fr W m
  fn : Fr W n
theorem ItS.up {t : ByteArray} {Bs bk m n : Nat} {Fr : World → Nat → Prop} {Inv : World → Prop} {A B : World} (h : ItS t Bs bk m n Fr A) (hF : FrUp Inv Fr) (hI : Inv A) (hb : Below A.heap.size A B) : ItS t Bs bk m n Fr B := by
  have h2 := tabs_size h.tabs
  have lt : ∀ {k ob}, A.heap[k]? = some ob → k < A.heap.size := fun h => (Array.getElem?_eq_some_iff.1 h).1
  exact ⟨tabs_low h2 h.tabs hb, hF A B _ hI hb fun _ => h.f3, hF A B _ hI hb fun _ => h.f4, (hb.block _ (lt h.txt)).trans h.txt, hF A B _ hI hb fun _ => h.fb, (hb.block _ (lt h.bkk)).trans h.bkk, hF A B _ hI hb fun _ => h.fk,
    h.books.keep (hb.block _ (lt h.books.1)) (hb.block _ (lt h.books.2)), hF A B _ hI hb fun _ => h.fm, hF A B _ hI hb fun _ => h.fn⟩
theorem ItS.kp {t : ByteArray} {Bs bk m n : Nat} {Fr : World → Nat → Prop} {A B : World} (h : ItS t Bs bk m n Fr A) (hk : KpF Fr A B) : ItS t Bs bk m n Fr B := by
  obtain ⟨z3, z4⟩ := tabs_size h.tabs
  have e3 := hk.2 g3 _ (Array.getElem?_eq_getElem z3) h.f3
  have e4 := hk.2 g4 _ (Array.getElem?_eq_getElem z4) h.f4
  have e1 := hk.2 _ _ h.txt h.fb
  have e2 := hk.2 _ _ h.bkk h.fk
  have e5 := hk.2 _ _ h.books.1 h.fm
  have e6 := hk.2 _ _ h.books.2 h.fn
  exact ⟨tabs_blocks h.tabs (e3.1.trans (Array.getElem?_eq_getElem z3).symm) (e4.1.trans (Array.getElem?_eq_getElem z4).symm), e3.2, e4.2, e1.1, e1.2, e2.1, e2.2, ⟨e5.1, e6.1⟩, e5.2, e6.2⟩
abbrev encT (x : Tok × Nat) : Array Value := #[.agg (tokA x.1), .int .i64 (x.2 : Int)]
set_option maxRecDepth 100000 in
set_option maxHeartbeats 8000000 in
theorem tok1_x (nd : Nat) (hn : 1 ≤ nd) (t : ByteArray) (ht : t.size ≤ 100000) (Bs : Nat) (Inv : World → Prop) (Fr : World → Nat → Prop) (hF : FrUp Inv Fr) (w : World) (hBs : w.heap[Bs]? = some (.cells #[.string t] 9 (0, 0))) (hT : Tabs w)
    (hFr : ∀ W, Below w.heap.size w W → Inv W → Fr W Bs ∧ Fr W g3 ∧ Fr W g4) :
    SeqX Fence.wide nd Tryd.prog 28 #[.pointer (some ⟨Bs, 0, none⟩)] encT Inv (KpF Fr) (els t 0) w := fun l J Jx W hW hJ hJx hJI hY h0 => by
  obtain ⟨fBs, f3, f4⟩ := hFr W hW (hJI _ _ h0)
  have tW := tabs_low (tabs_size hT) hT hW
  have bW := (hW.block Bs (Array.getElem?_eq_some_iff.1 hBs).1).trans hBs
  have iW := hJI _ _ h0
  have hJb : ∀ pre A B, J pre A → Below A.heap.size A B → J pre B := fun pre A B h hb => hJ pre A B none h (below_none hb) (fun r e => by cases e)
  clear hFr hBs hT hJ
  refine callsIn_of_wp Tryd.func28 rfl trivial (wpIn_wide.2 ?_) rfl
  simp only [Tryd.ntmps28, List.size_toArray, List.length_cons, List.length_nil, Nat.reduceAdd, Nat.reduceSub, Array.replicate_succ, Array.replicate_zero, List.push_toArray, List.append_toArray, List.nil_append, List.cons_append]
  go_upto_region 0 with fail
  refine wp_region_lit ?_
  refine wl_callE (args := #[]) (fun V => run_call_fn V (enters_of Tryd.func13 (by kernel_rfl) rfl) rfl (by simp [Act.eval])) (book_any W) rfl ?_
  rintro e V1 ⟨m, n, rfl, hB, hm, hn2, hb1⟩
  refine ⟨_, rfl, ?_⟩
  simp only [nm0, nm1, nm2, nm3]
  have hM1 := Mem.start V1
  refine wl_new hM1 (f := fun b => .pointer (some ⟨b, 0, none⟩)) (fun W => run_alloc_of rfl (al_Book W)) rfl fun bk V2 hM2 => ?_
  simp only [nm0, nm1, nm2, nm3]
  refine wl_set hM2 0 (cs := #[.map (some m), .map (some n)]) rfl rfl rfl rfl rowBook rfl (by simp [Value.oneCell']) rfl rfl fun V3 hM3 => ?_
  simp only [nm2, nm3] at hM3
  refine wpList_nil ?_
  have hb3 : Below W.heap.size W V3 := hb1.trans (hM3.below.mono hb1.size)
  have hbk := hM3.get 0 rfl
  have hbl := hM3.low _ (List.mem_of_getElem? (i := 0) rfl)
  simp only at hbl
  have lt : ∀ {k ob}, W.heap[k]? = some ob → k < W.heap.size := fun h => (Array.getElem?_eq_some_iff.1 h).1
  have hz1 := hb1.size
  have HI : ItS t Bs bk m n Fr V3 :=
    ⟨tabs_low (tabs_size tW) tW hb3, hF W V3 _ iW hb3 fun _ => f3, hF W V3 _ iW hb3 fun _ => f4, (hb3.block _ (lt bW)).trans bW, hF W V3 _ iW hb3 fun _ => fBs, hbk, hF W V3 _ iW hb3 fun h => by omega,
      hB.keep (hM3.below.block _ hB.lt.1) (hM3.below.block _ hB.lt.2), hF W V3 _ iW hb3 fun h => by omega, hF W V3 _ iW hb3 fun h => by omega⟩
  have hJ3 := hJb [] W V3 h0 hb3
  clear hM1 hM2 hM3 hB hb1 hb3 hbk hbl hz1 lt hm hn2 tW bW iW f3 f4 fBs h0
  go_wp2_with fail
  go_loopw [4] (fun p wr => ∃ (pre : List (Tok × Nat)) (a : Nat), p = .int .i64 (a : Int) ∧ a ≤ t.size ∧ els t 0 = pre ++ els t a ∧ J pre wr ∧ ItS t Bs bk m n Fr wr)
    (fun p _ => t.size - (Go.RowKit.intOf p).toNat)
  case atStart => exact ⟨[], 0, rfl, by omega, rfl, hJ3, HI⟩
  case round =>
    obtain ⟨pre, a, rfl, ha, hx, hJs, hS⟩ := hrel
    have iS := hJI _ _ hJs
    obtain ⟨X, E, hX⟩ : ∃ X E, wordT t (blk t a) = (X, E) := ⟨_, _, rfl⟩
    have hM0 := Mem.start wr
    have KN := lnext_any t a m n wr hS.books ht ha hS.tabs
    rw [hX] at KN
    go_upto_region 2 with fail
    refine wp_region_lit ?_
    refine wl_far hS.bkk (v := .agg #[.map (some m), .map (some n)]) (sub := #[.map (some m), .map (some n)]) rfl rfl rfl rfl rowBook rfl ?_
    simp only [nm0, nm1, nm2, nm3]
    refine lw_val (v := .string t) (run_load_cell rfl rfl hS.txt rfl cellStr) rfl ?_
    simp only [nm0, nm1, nm2, nm3]
    refine wl_pure (v := .int .i64 (a : Int)) (fun W => rfl) rfl ?_
    simp only [nm0, nm1, nm2, nm3]
    refine wl_call hM0 (args := #[.agg #[.map (some m), .map (some n)], .string t, .int .i64 (a : Int)]) (v := .tuple #[.agg (tokA X), .int .i64 (E : Int)]) (fun W => run_call_fn W (enters_of Tryd.func14 (by kernel_rfl) rfl) rfl (by simp [Act.eval])) KN rfl fun V1 hM1 => ?_
    simp only [nm0, nm1, nm2, nm3]
    refine wl_pure (v := .tuple #[.agg (tokA X), .int .i64 (E : Int)]) (fun W => rfl) rfl ?_
    simp only [nm0, nm1, nm2, nm3]
    refine wl_pure (v := .agg (tokA X)) (fun W => rfl) rfl ?_
    simp only [nm0, nm1, nm2, nm3]
    refine wl_pure (v := .int .i64 (E : Int)) (fun W => rfl) rfl ?_
    simp only [nm0, nm1, nm2, nm3]
    refine wl_new hM1 (f := fun b => .pointer (some ⟨b, 0, none⟩)) (fun W => run_alloc_of rfl (al_Tok W)) rfl fun p V2 hM2 => ?_
    simp only [nm0, nm1, nm2, nm3]
    refine wl_set hM2 0 (cs := tokA X) rfl rfl rfl rfl rowTok rfl (by simp [tokA, Value.oneCell']) rfl rfl fun V3 hM3 => ?_
    simp only [nm2, nm3] at hM3
    refine wl_pure (v := .int .i64 (E : Int)) (fun W => rfl) rfl ?_
    simp only [nm0, nm1, nm2, nm3]
    refine wpList_nil ?_
    have hpb := hM3.get 0 rfl
    have hpl := hM3.low _ (List.mem_of_getElem? (i := 0) rfl)
    simp only at hpl
    have hbe := hM3.below
    have hS3 := hS.up hF iS hbe
    have hJ3 := hJb pre wr V3 hJs hbe
    have hFp : Fr V3 p := hF wr V3 p iS hbe fun h => by omega
    clear hM0 hM1 hM2 hM3 hbe hS hJs iS KN HI
    have x0 := blk_cell hpb (i := 0) (v := .int .i64 (X.kind : Int)) rfl
    have x1 := blk_cell hpb (i := 1) (v := .int .i64 (X.fr : Int)) rfl
    have x2 := blk_cell hpb (i := 2) (v := .int .i64 (X.til : Int)) rfl
    have x3 := blk_cell hpb (i := 3) (v := .int .i64 X.n) rfl
    have x4 := blk_cell hpb (i := 4) (v := .string ⟨X.s.toArray⟩) rfl
    have hXa : tokA X = #[.int .i64 (X.kind : Int), .int .i64 (X.fr : Int), .int .i64 (X.til : Int), .int .i64 X.n, .string ⟨X.s.toArray⟩] := rfl
    have HPB := Lib.hid hpb
    have HFP := Lib.hid hFp
    have HS3 := Lib.hid hS3
    have HY := Lib.hid hY
    have HJB := Lib.hid hJb
    go_upto_region 3 with fail
    refine (wpIn_wide (n := nd)).1 ?_
    by_cases hE : E = 0
    · by_cases hK : X.kind = 12
      · skip
        have hfin : els t 0 = pre ++ [(X, E)] := by rw [hx, els_last (.inr (by rw [hX]; exact hK)), hX]
        have hpre : pre ++ [(X, E)] <+: els t 0 := by rw [hfin]; exact List.prefix_refl _
        obtain ⟨fn, tmps, assign, body, hy, hR⟩ := HY.out pre (X, E) V3 hJ3 hpre
        dsimp only [encT] at hy
        rw [hXa] at hy
        have HPRE := Lib.hid hpre
        
        have HFIN := Lib.hid hfin
        have HK := Lib.hid hK
        subst hE
        rw [show ((0 : Nat) : Int) = 0 from rfl] at hy
        clear hX hx hfin hpre hJ3 hS3 hpb hFp hY hJb hK
        gi_wp2
        refine hR.mono ?_
        rintro e W3 (⟨rfl, hJ4, hk4⟩ | ⟨rfl, hJx4, -⟩)
        · have y0 := blk_cell (hk4.2 p _ HPB.out HFP.out).1 (i := 0) (v := .int .i64 12) (by rw [hXa, HK.out]; rfl)
          gi_wp2
          go_wp2_with fail
          refine bodyPost_ret (results_none rfl _ _ _) rfl ?_
          exact ⟨⟨_, rfl⟩, .inl (by rw [HFIN.out]; exact hJ4)⟩
        · gi_wp2
          go_wp2_with fail
          refine bodyPost_ret (results_none rfl _ _ _) rfl ?_
          exact ⟨⟨_, rfl⟩, .inr ⟨pre, _, HPRE.out, hJx4⟩⟩
      · skip
        have hmore := els_more ha (by rw [hX]; exact hE) (by rw [hX]; exact hK)
        rw [hX] at hmore
        obtain ⟨hm1, hm2, hm3⟩ := hmore
        simp only at hm1 hm2 hm3
        have hfin : els t 0 = (pre ++ [(X, E)]) ++ els t X.til := by rw [hx, hm1]; simp
        have hpre : pre ++ [(X, E)] <+: els t 0 := by rw [hfin]; exact List.prefix_append _ _
        obtain ⟨fn, tmps, assign, body, hy, hR⟩ := HY.out pre (X, E) V3 hJ3 hpre
        dsimp only [encT] at hy
        rw [hXa] at hy
        have HPRE := Lib.hid hpre
        
        have HFIN := Lib.hid hfin
        have HM := Lib.hid (And.intro hm2 hm3)
        have q12 : ((X.kind : Int) == 12) = false := by simp; omega
        subst hE
        rw [show ((0 : Nat) : Int) = 0 from rfl] at hy
        clear hX hx hfin hpre hJ3 hS3 hpb hFp hY hJb hK hm1 hm2 hm3
        gi_wp2
        refine hR.mono ?_
        rintro e W3 (⟨rfl, hJ4, hk4⟩ | ⟨rfl, hJx4, -⟩)
        · have hb4 := (hk4.2 p _ HPB.out HFP.out).1
          have y0 := blk_cell hb4 (i := 0) (v := .int .i64 (X.kind : Int)) rfl
          have y2 := blk_cell hb4 (i := 2) (v := .int .i64 (X.til : Int)) rfl
          have HS4 := Lib.hid (HS3.out.kp hk4)
          clear hb4
          gi_wp2
          go_wp2_with fail
          go_roundw
          case rel => exact ⟨pre ++ [(X, 0)], X.til, rfl, HM.out.2, HFIN.out, hJ4, HS4.out⟩
          case measure =>
            have := HM.out
            simp [Go.RowKit.intOf]
            omega
        · gi_wp2
          go_wp2_with fail
          refine bodyPost_ret (results_none rfl _ _ _) rfl ?_
          exact ⟨⟨_, rfl⟩, .inr ⟨pre, _, HPRE.out, hJx4⟩⟩
    · skip
      have hfin : els t 0 = pre ++ [(X, E)] := by rw [hx, els_last (.inl (by rw [hX]; exact hE)), hX]
      have hpre : pre ++ [(X, E)] <+: els t 0 := by rw [hfin]; exact List.prefix_refl _
      obtain ⟨fn, tmps, assign, body, hy, hR⟩ := HY.out pre (X, E) V3 hJ3 hpre
      dsimp only [encT] at hy
      rw [hXa] at hy
      have HPRE := Lib.hid hpre
      
      have HFIN := Lib.hid hfin
      have q0 : ((E : Int) == 0) = false := by simp; omega
      have q1 : ¬ (E : Int) = 0 := by omega
      have q2 : ((E : Int) != 0) = true := by simp; omega
      have q3 : (E : Int) ≠ 0 := by omega
      clear hX hx hfin hpre hJ3 hS3 hpb hFp hY hJb hE
      gi_wp2
      refine hR.mono ?_
      rintro e W3 (⟨rfl, hJ4, hk4⟩ | ⟨rfl, hJx4, -⟩)
      · gi_wp2
        go_wp2_with fail
        refine bodyPost_ret (results_none rfl _ _ _) rfl ?_
        exact ⟨⟨_, rfl⟩, .inl (by rw [HFIN.out]; exact hJ4)⟩
      · gi_wp2
        go_wp2_with fail
        refine bodyPost_ret (results_none rfl _ _ _) rfl ?_
        exact ⟨⟨_, rfl⟩, .inr ⟨pre, _, HPRE.out, hJx4⟩⟩
theorem tokens_any (s : ByteArray) (w : World) : Calls Tryd.prog 19 #[.string s] w fun e w' => e = .returned (.func (.func 28) #[] #[.pointer (some ⟨w.heap.size, 0, none⟩)]) ∧ w' = w.alloc (.cells #[.string s] 9) := by
  go_enter Tryd.func19, Tryd.ntmps19
  go_wp2_with fail
  go_ret
  exact ⟨rfl, rfl⟩
theorem lall_any (s : ByteArray) (w : World) : Calls Tryd.prog 11 #[.string s] w fun e w' => e = .returned (.func (.func 20) #[] #[.pointer (some ⟨w.heap.size, 0, none⟩)]) ∧ w' = w.alloc (.cells #[.string s] 9) := by
  go_enter Tryd.func11, Tryd.ntmps11
  go_wp2_with fail
  go_ret
  exact ⟨rfl, rfl⟩
end Go.Proofs.YtndifilhfiooaaaDoor
namespace Go.Proofs.YtndifilhfiooaaaDoor
set_option maxRecDepth 20000
set_option linter.unusedSimpArgs false
set_option linter.unusedVariables false
open Go.RowKit
variable {F : Fence} {n : Nat} {P : Program}
end Go.Proofs.YtndifilhfiooaaaDoor
namespace Go.Proofs.YtndifilhfiooaaaDoor
set_option maxRecDepth 20000
set_option linter.unusedSimpArgs false
set_option linter.unusedVariables false
open Go.RowKit Go.Sort
theorem any_inw {P : Program} {Q : Exit → Act → World → Prop} {a : Act} {w : World} {l : List Oper} (n : Nat) (hn : n ≤ l.length) (hB : invB l.toArray a.tmps.size = true) (htl : tailB l.toArray n = true)
    (h : wpInw P l.toArray w (fun A w' => wpAny P .any l.toArray Q (l.length - n) (headUp l.toArray n) A w') (l.take n) 0 a [] []) : wpAny P .any l.toArray Q l.toArray.size (Array.replicate l.toArray.size false) a { w with drawn := w.drawn + 1 } := by
  obtain ⟨Us, hl, hS, hO, hE⟩ := wpInw_all hB (l.take n) [] a [] [] ⟨rfl, rfl, fun _ _ => rfl, fun j hj => by simp at hj, fun j hj => by simp at hj, fun q hq => by simp at hq, fun q hq => by simp at hq⟩ (fun j hj => by
    have hj' : j < n := by rw [List.length_take] at hj; omega
    rw [List.getElem?_take_of_lt hj']
    simp) h
  simp only [List.nil_append, List.length_nil, Nat.zero_add] at hO hE
  · have hln : (l.take n).length = n := by rw [List.length_take]; omega
    rw [hln] at hE
    refine (wpAny_of_inw (Ts := Us) (w0 := w) (n := n) hB (by simpa using hn) htl hS (fun i o hi ho => hO i o (by rw [List.getElem?_take_of_lt hi]; simpa using ho)) (by simpa using hE) _ _ _ _ ⟨?_, rfl, rfl, by simp, fun j hj => ?_, fun j _ hj => ?_, fun t _ => rfl, fun j hj => ?_, fun i j _ hi => ?_⟩ ?_)
    · exact ⟨rfl, rfl, rfl, Nat.le_refl _, fun _ _ => rfl⟩
    · exfalso
      have := Array.mem_of_getElem? hj
      simp at this
    · exfalso
      have := Array.mem_of_getElem? hj
      simp at this
    · exfalso
      have := Array.mem_of_getElem? hj
      simp at this
    · exfalso
      have := Array.mem_of_getElem? hi
      simp at this
    · simp
section
variable {P : Program} {ops : Array Oper} {Q : Exit → Act → World → Prop} {l n : Nat}
def notDefer (o : Oper) : Bool := match o.op with
  | .defer _ => false
  | _ => true
theorem opIn_of {o : Oper} {a : Act} {w : World} {K : Act → World → Prop} (hd : notDefer o = true) (h : o.wp P a w K Q) : o.wpIn (Fence.wide.inRound l) n P a w K Q := by
  refine ⟨fun _ _ => trivial, ?_⟩
  have hd2 : ∀ c, o.op ≠ .defer c := fun c e => by
    unfold notDefer at hd
    rw [e] at hd
    cases hd
  rw [Fence.inRound_round, Oper.semAt_some l _ _ hd2]
  unfold Oper.wp at h
  have hdep : (Fence.wide.inRound l).depth.isSome = true → 1 ≤ n := fun hh => by
    rw [Fence.inRound_depth] at hh
    cases hh
  generalize (execOp a.eval o).run P w = r at h ⊢
  cases r with
  | ok x w' =>
    cases x with
    | value v => exact h
    | skip => exact h
    | defer d => exact h
    | enter f args => exact ⟨hdep, CallsIn.inRound l (callsIn_wide.2 h)⟩
    | row row args => exact ⟨hdep, fun c cs _ => by
        obtain ⟨v, w'', r, s⟩ := h c cs
        exact ⟨v, w'', r, by rw [fenced_inRound]; exact stepsIn_wide.2 s⟩⟩
    | _ => exact absurd h (by simp [Oper.upon])
  | halt x w' =>
    cases x with
    | panic v => exact h
    | _ => exact absurd h (by simp [Oper.upon])
theorem anyIn_of (hp : ops.all notDefer = true) (hL : ¬ LetsOut Q) : ∀ (fuel : Nat) (listed : Array Bool) (a : Act) (w : World), wpAny P .any ops Q fuel listed a w → wpAnyIn (Fence.wide.inRound l) n P .any ops Q fuel listed a w
  | 0, _, _, _, h => h
  | fuel + 1, listed, a, w, h => by
    refine ⟨h.1, fun i hi => ?_⟩
    have h2 := h.2 i hi
    unfold wpOp at h2
    unfold wpOpIn
    cases ho : ops[i]? with
    | none => rw [ho] at h2; exact anyIn_of hp hL fuel _ a w h2
    | some o =>
      rw [ho] at h2
      simp only at h2 ⊢
      have p1 : notDefer o = true := Array.all_eq_true_iff_forall_mem.1 hp o (Array.mem_of_getElem? ho)
      split
      · rename_i hw
        rw [if_pos hw] at h2
        rcases h2 with h2 | ⟨-, h2⟩
        · exact Oper.wpIn_mono (fun a w => anyIn_of hp hL fuel _ a w) (opIn_of p1 h2)
        · exact absurd h2 hL
      · rename_i hw
        rw [if_neg hw] at h2
        exact ⟨fun _ _ => trivial, anyIn_of hp hL fuel _ _ w h2⟩
theorem region_inRound {id : Nat} {a : Act} {w : World} {ls : List Oper} (k : Nat) (hm : P.follows .mixedOrders = true) (hp : ls.toArray.all notDefer = true) (hL : ¬ LetsOut Q) (hk : k ≤ ls.length) (hB : invB ls.toArray a.tmps.size = true) (htl : tailB ls.toArray k = true)
    (h : wpInw P ls.toArray w (fun A w' => wpAny P .any ls.toArray Q (ls.length - k) (headUp ls.toArray k) A w') (ls.take k) 0 a [] []) : (Code.region id ls.toArray true).wpIn (Fence.wide.inRound l) n P Q a w :=
  wpIn_region_any hm (anyIn_of hp hL _ _ _ _ (any_inw k hk hB htl h))
/-- .. what it leaves named ahead. -/
theorem region_inRoundR {id : Nat} {a : Act} {w : World} {ls : List Oper} (k : Nat) (A9 : Act) (R : World → Prop) (hm : P.follows .mixedOrders = true) (hp : ls.toArray.all notDefer = true) (hk : k ≤ ls.length) (hB : invB ls.toArray a.tmps.size = true) (htl : tailB ls.toArray k = true)
    (h : wpInw P ls.toArray w (fun A w' => wpAny P .any ls.toArray (fun e A W' => e = .normal ∧ A = A9 ∧ R W') (ls.length - k) (headUp ls.toArray k) A w') (ls.take k) 0 a [] []) (hQ : ∀ W', R W' → Q .normal A9 W') : (Code.region id ls.toArray true).wpIn (Fence.wide.inRound l) n P Q a w :=
  wpIn_mono (region_inRound k hm hp (by rintro ⟨a, w, h, -⟩; cases h) hk hB htl h) (by rintro e A W' ⟨rfl, rfl, hR⟩; exact hQ W' hR)
end
end Go.Proofs.YtndifilhfiooaaaDoor
namespace Go.Proofs.YtndifilhfiooaaaDoor
set_option maxRecDepth 20000
set_option linter.unusedSimpArgs false
set_option linter.unusedVariables false
open Go.RowKit Go.Sort
section
variable {P : Program} {ops : Array Oper} {Q : Exit → Act → World → Prop} {l n : Nat}
theorem listIn_of (hL : ¬ LetsOut Q) : ∀ (ls : List Oper) (a : Act) (w : World), ls.all notDefer = true → wpList P ops Q ls a w → wpListIn (Fence.wide.inRound l) n P ops Q ls a w
  | [], _, _, _, h => h
  | o :: rest, a, w, hp, h => by
    rw [List.all_cons, Bool.and_eq_true] at hp
    unfold wpList at h
    unfold wpListIn
    split
    · rename_i hw
      rw [if_pos hw] at h
      rcases h with h | ⟨-, h⟩
      · exact Oper.wpIn_mono (fun a w => listIn_of hL rest a w hp.2) (opIn_of hp.1 h)
      · exact absurd h hL
    · rename_i hw
      rw [if_neg hw] at h
      exact ⟨fun _ _ => trivial, listIn_of hL rest _ w hp.2 h⟩
theorem regionL_inRound {id : Nat} {a : Act} {w : World} {ls : List Oper} (R : Act → World → Prop) (hp : ls.all notDefer = true) (h : wpList P ls.toArray (fun e A W' => e = .normal ∧ R A W') ls a w) (hQ : ∀ A W', R A W' → Q .normal A W') : (Code.region id ls.toArray false).wpIn (Fence.wide.inRound l) n P Q a w :=
  wpIn_mono (wpIn_region_lit (listIn_of (by rintro ⟨a, w, h, -⟩; cases h) ls a w hp h)) (by rintro e A W' ⟨rfl, h⟩; exact hQ A W' h)
end
section
variable {P : Program} {w w' : World} {ops : Array Oper} {Q : Exit → Act → World → Prop} {o : Oper} {rest : List Oper} {A : Act}
/-- An operation that leaves a world which is known. -/
theorem lw_valW {v : Value} (h : (execOp A.eval o).run P w = .ok (.value v) w') (hgd : Region.wanted o (yielded ops A.tmps) = true) (hr : wpList P ops Q rest (A.put o.dst v) w') : wpList P ops Q (o :: rest) A w := by
  refine wpList_step fun K hK => ?_
  rw [if_pos hgd]
  unfold Oper.wp
  rw [h]
  exact hK _ _ hr
theorem lw_skipW (h : (execOp A.eval o).run P w = .ok .skip w') (hgd : Region.wanted o (yielded ops A.tmps) = true) (hd : o.dst = none) (hr : wpList P ops Q rest A w') : wpList P ops Q (o :: rest) A w := by
  refine wpList_step fun K hK => ?_
  rw [if_pos hgd]
  unfold Oper.wp
  rw [h]
  show K (A.put o.dst undef) w'
  rw [hd]
  exact hK _ _ hr
end
section
variable {F : Fence} {n : Nat} {P : Program} {ops : Array Oper} {Q : Exit → Act → World → Prop} {o : Oper} {rest : List Oper} {A : Act} {w w' : World}
theorem wi_val {v : Value} (hF : ∀ f, F.fn f) (hnd : ∀ c, o.op ≠ .defer c) (h : (execOp A.eval o).run P w = .ok (.value v) w') (hgd : o.guard = none) (hr : wpListIn F n P ops Q rest (A.put o.dst v) w') : wpListIn F n P ops Q (o :: rest) A w := by
  refine wpListIn_plain hgd ?_
  intro K hK
  refine ⟨fun f _ => hF f, ?_⟩
  rw [Oper.semAt_eq _ _ _ hnd, h]
  exact hK _ _ hr
theorem wi_skip (hF : ∀ f, F.fn f) (hnd : ∀ c, o.op ≠ .defer c) (h : (execOp A.eval o).run P w = .ok .skip w') (hgd : o.guard = none) (hd : o.dst = none) (hr : wpListIn F n P ops Q rest A w') : wpListIn F n P ops Q (o :: rest) A w := by
  refine wpListIn_plain hgd ?_
  intro K hK
  refine ⟨fun f _ => hF f, ?_⟩
  rw [Oper.semAt_eq _ _ _ hnd, h]
  show K (A.put o.dst undef) w'
  rw [hd]
  exact hK _ _ hr
theorem wpIn_fr {c : Code} {t t' : Array Value} {W : World} (e : t = t') (h : c.wpIn F n P Q { tmps := t', defers := [] } W) : c.wpIn F n P Q { tmps := t, defers := [] } W := by
  rw [e]; exact h
theorem run_store_whole {ty : TypeId} {x y : Operand} {b : Nat} {t : TypeId} {old cs : Array Value} (hg : w.heap[b]? = some (.cells old t (0, 0))) (ho : o.op = .store ty x y) (hx : A.eval x = .pointer (some ⟨b, 0, none⟩)) (hy : A.eval y = .agg cs) (hT : RowTy P ty cs.size) (hs : old.size = cs.size) (h1 : cs.all (·.oneCell') = true) : (execOp A.eval o).run P w = .ok .skip (w.setRow b cs) := by
  have h := run_store_part (P := P) (off := 0) (sub := cs) hg (by omega) hT.2 h1
  have e : (old.toList.take 0 ++ cs.toList ++ old.toList.drop (0 + cs.size)).toArray = cs := by
    rw [List.take_zero, List.nil_append, Nat.zero_add, ← hs, List.drop_eq_nil_of_le (by simp), List.append_nil, Array.toArray_toList]
  rw [e] at h
  unfold execOp
  simp only [ho, hx, hy, Instr.storeAt, Instr.sureAddr, Sem.run_bind, Sem.run_pure, Result.andThen_ok, h]
end
theorem setRow_keeps (W : World) (b B : Nat) (cs : Array Value) (h : b < B) : KeepsFrom B W (W.setRow b cs) :=
  ⟨by simp, fun k o hk hg _ => by rw [setRow_other W b k cs (by omega)]; exact hg⟩
theorem below_keeps {W W' : World} (h : Below W.heap.size W W') (B : Nat) : KeepsFrom B W W' :=
  ⟨h.size, fun k o _ hg _ => (h.block k (Array.getElem?_eq_some_iff.1 hg).1).trans hg⟩
/-- A list's element and all ahead of it. -/
theorem pre_mem {α : Type} {L pre : List α} {x : α} (h : pre ++ [x] <+: L) : ∃ r, L = pre ++ x :: r := by
  obtain ⟨r, rfl⟩ := h
  exact ⟨r, by simp⟩
theorem run_store_one {P : Program} {w : World} {o : Oper} {A : Act} {ty : TypeId} {x y : Operand} {b : Nat} {t : TypeId} {u v : Value} (hg : w.heap[b]? = some (.cells #[u] t (0, 0))) (ho : o.op = .store ty x y) (hx : A.eval x = .pointer (some ⟨b, 0, none⟩)) (hy : A.eval y = v) (hT : CellTy P ty) (h1 : v.oneCell' = true) : (execOp A.eval o).run P w = .ok .skip (w.setRow b #[v]) := by
  have h := run_store_at (P := P) (off := 0) (v := v) hg (by simp) hT h1
  unfold execOp
  simp only [ho, hx, hy, Instr.storeAt, Instr.sureAddr, Sem.run_bind, Sem.run_pure, Result.andThen_ok, h]
  rfl
/-- append onto a slice of the call's own, as it is run. -/
theorem run_app_of {P : Program} {w : World} {o : Oper} {A : Act} {s x : Operand} {t : TypeId} (ho : o.op = .call { callee := .builtin .append, args := #[s, x], argTypes := #[t, t] }) {u a v' : Value} {w' : World} (hs : A.eval s = u) (hx : A.eval x = a) (h : (Builtin.append_ #[t, t] o.type #[u, a]).run P w = .ok v' w') : (execOp A.eval o).run P w = .ok (.value v') w' := by
  unfold execOp
  simp only [ho, resolve, invoke, builtin, Sem.run_bind, Sem.run_pure, Result.andThen_ok, List.map_toArray, List.map_cons, List.map_nil, hs, hx, h]
section
variable {w0 w w' : World} {M : List Blk}
theorem mem_grown {row : Option Nat} (h : Mem w0 M w) (hg : w.grownBy w' row) (hr : ∀ g, row = some g → w0.heap.size ≤ g ∧ ∀ p ∈ M, p.1 ≠ g) : Mem w0 M w' := by
  refine ⟨⟨hg.os.trans h.below.os, hg.tape.trans h.below.tape, hg.output.trans h.below.output, Nat.le_trans h.below.size hg.size, fun k hk => ?_⟩, h.low, h.nod, fun p hp => ?_⟩
  · exact (hg.block k (Nat.lt_of_lt_of_le hk h.below.size) (fun e => by have := (hr k e.symm).1; omega)).trans (h.below.block k hk)
  · exact (hg.block p.1 (h.lt hp) (fun e => (hr _ e.symm).2 p hp rfl)).trans (h.at_ p hp)
/-- What is listed, all of it cells, stays while blocks of other kinds are turned. -/
theorem mem_own {row : Option Nat} {D : Nat} (h : Mem w0 M w) (hc : ∀ p ∈ M, p.2.isCells = true) (hD : w0.heap.size ≤ D) (hg : w.grownBy w' row) (hr : ∀ r, row = some r → D ≤ r ∧ ∃ o : Obj, w.heap[r]? = some o ∧ o.isCells = false) : Mem w0 M w' :=
  mem_grown h hg fun g e => by
    obtain ⟨h1, o, h2, h3⟩ := hr g e
    refine ⟨by omega, fun p hp e => ?_⟩
    subst e
    rw [h.at_ p hp] at h2
    cases h2
    rw [hc p hp] at h3
    cases h3
theorem cells_own {row : Option Nat} {k : Nat} {cs : Array Value} {T : TypeId} {fr : Nat × Nat} (h : w.heap[k]? = some (.cells cs T fr)) (hg : w.grownBy w' row) (hr : ∀ r, row = some r → ∃ o : Obj, w.heap[r]? = some o ∧ o.isCells = false) : w'.heap[k]? = some (.cells cs T fr) :=
  (hg.block k (Array.getElem?_eq_some_iff.1 h).1 (fun e => by
    obtain ⟨o, h2, h3⟩ := hr k e.symm
    rw [h] at h2
    cases h2
    cases h3)).trans h
theorem owns_own {row : Option Nat} {D sz n : Nat} {e : TypeId} {v : Value} {xs : List Value} (h : w.ownsRow D e sz v n xs) (hg : w.grownBy w' row) (hr : ∀ r, row = some r → ∃ o : Obj, w.heap[r]? = some o ∧ o.isCells = false) : w'.ownsRow D e sz v n xs := by
  obtain ⟨hl, h⟩ := h
  refine ⟨hl, ?_⟩
  rcases h with h | ⟨g, cap, cur, h1, h2, h3, h4, h5, h6, h7⟩
  · exact .inl h
  · exact .inr ⟨g, cap, cur, h1, h2, cells_own h3 hg hr, h4, h5, h6, h7⟩
theorem owns_setRow {D sz n c : Nat} {e : TypeId} {v : Value} {xs : List Value} {cs : Array Value} (h : w.ownsRow D e sz v n xs) (hc : c < D) : (w.setRow c cs).ownsRow D e sz v n xs := by
  obtain ⟨hl, h⟩ := h
  refine ⟨hl, ?_⟩
  rcases h with h | ⟨g, cap, cur, h1, h2, h3, h4, h5, h6, h7⟩
  · exact .inl h
  · exact .inr ⟨g, cap, cur, h1, h2, by rw [setRow_other _ _ _ _ (by omega)]; exact h3, h4, h5, h6, h7⟩
theorem owns_below {D sz n B : Nat} {e : TypeId} {v : Value} {xs : List Value} (h : w.ownsRow D e sz v n xs) (hb : Below w.heap.size w w') (hB : B ≤ D) : w'.ownsRow B e sz v n xs := by
  obtain ⟨hl, h⟩ := h
  refine ⟨hl, ?_⟩
  rcases h with h | ⟨g, cap, cur, h1, h2, h3, h4, h5, h6, h7⟩
  · exact .inl h
  · exact .inr ⟨g, cap, cur, h1, by omega, (hb.block g (Array.getElem?_eq_some_iff.1 h3).1).trans h3, h4, h5, h6, h7⟩
/-- Where a slice's row lies. -/
theorem owns_lt {D sz n g : Nat} {e : TypeId} {v : Value} {xs : List Value} (h : w.ownsRow D e sz v n xs) (hv : v.ownBlock = some g) : D ≤ g ∧ g < w.heap.size ∧ ∃ cs, w.heap[g]? = some (.cells cs e (0, 0)) := by
  obtain ⟨hl, h⟩ := h
  rcases h with h | ⟨g', cap, cur, rfl, h2, h3, h4, h5, h6, h7⟩
  · obtain ⟨rfl, rfl⟩ | ⟨rfl, -⟩ := Or.inl (b := v = .slice none 0 0 ∧ True) h
    · cases hv
    · cases hv
  · have e : g' = g := by simpa [Value.ownBlock] using hv
    subst e
    exact ⟨h2, (Array.getElem?_eq_some_iff.1 h3).1, cur, h3⟩
end
/-- Where the row of the slice that a block holds lies. -/
def rowOf (c : Nat) (W : World) : Option Nat := (W.cell? ⟨c, 0, none⟩).bind Value.ownBlock
theorem rowOf_of {c : Nat} {W : World} {v : Value} {T : TypeId} (h : W.heap[c]? = some (.cells #[v] T (0, 0))) : rowOf c W = v.ownBlock := by
  unfold rowOf
  rw [show W.cell? ⟨c, 0, none⟩ = some v by rw [cell_of_row W c 0 #[v] T (0, 0) h]; rfl]
  rfl
theorem rowOf_same {c : Nat} {A B : World} (h : B.heap[c]? = A.heap[c]?) : rowOf c B = rowOf c A := by
  unfold rowOf
  rw [World.cell?_of_block h]
/-- A block that ranges over its own slice: what is not its own. -/
def FrC (c D : Nat) (W : World) (k : Nat) : Prop := k ≠ c ∧ k ≠ D + 1 ∧ rowOf c W ≠ some k
def InvC (c D : Nat) (W : World) : Prop := c < W.heap.size ∧ D + 1 < W.heap.size ∧ ∀ k, rowOf c W = some k → k < W.heap.size
theorem frC_up (c D : Nat) : FrUp (InvC c D) (FrC c D) := fun A B k ⟨i1, i2, i3⟩ hb hk => by
  have e : rowOf c B = rowOf c A := rowOf_same (hb.block c i1)
  unfold FrC
  rw [e]
  rcases Nat.lt_or_ge k A.heap.size with h | h
  · exact hk h
  · exact ⟨by omega, by omega, fun h2 => by have := i3 k h2; omega⟩
theorem kpF_loop {c D : Nat} (hc : c ≠ D + 1) (W : World) (r r' : Loop) (h : W.heap[D + 1]? = some (.loop r)) : KpF (FrC c D) W (W.putObj (D + 1) (.loop r')) := by
  refine ⟨(grownBy_putObj' W (D + 1) _).size, fun k ob hk hf => ?_⟩
  have e : rowOf c (W.putObj (D + 1) (.loop r')) = rowOf c W := rowOf_same (World.putObj_heap_other hc)
  refine ⟨(World.putObj_heap_other hf.2.1).trans hk, hf.1, hf.2.1, ?_⟩
  rw [e]
  exact hf.2.2
theorem kpF_below {c D : Nat} {W W' : World} (hc : c < W.heap.size) (hb : Below W.heap.size W W') : KpF (FrC c D) W W' := by
  refine ⟨hb.size, fun k ob hk hf => ⟨(hb.block k (Array.getElem?_eq_some_iff.1 hk).1).trans hk, hf.1, hf.2.1, ?_⟩⟩
  rw [rowOf_same (hb.block c hc)]
  exact hf.2.2
theorem owns_one {w : World} {D sz n : Nat} {e : TypeId} {v : Value} {xs : List Value} (h : w.ownsRow D e sz v n xs) : v.oneCell' = true := by
  obtain ⟨hl, h⟩ := h
  rcases h with h | ⟨g, cap, cur, rfl, -⟩
  · obtain ⟨rfl, -⟩ | h := Or.inl (b := False) h
    · rfl
    · cases h
  · rfl
theorem info_partsT {i : Option TypeInfo} {z : Value} {s b : Nat} (h : i.map (fun i => (i.zero, i.size, i.bytes)) = some (some z, s, b)) : ∃ i0, i = some i0 ∧ i0.zero = some z ∧ i0.size = s ∧ i0.bytes = b := by
  cases i with
  | none => cases h
  | some i0 =>
    simp only [Option.map_some, Option.some.injEq, Prod.mk.injEq] at h
    exact ⟨i0, rfl, h.1, h.2.1, h.2.2⟩
theorem results_ccc {P : Program} {w : World} {fn : Func} {tmps : Array Value} {v1 v2 v3 : Value} {a1 t1 b1 a2 t2 b2 a3 t3 b3 : Nat} (h : fn.results = #[.cell a1 t1, .cell a2 t2, .cell a3 t3]) (h1 : tmps.getD a1 undef = .pointer (some ⟨b1, 0, none⟩)) (h2 : tmps.getD a2 undef = .pointer (some ⟨b2, 0, none⟩)) (h3 : tmps.getD a3 undef = .pointer (some ⟨b3, 0, none⟩))
    (l1 : (loadVar t1 ⟨b1, 0, none⟩).run P w = .ok v1 w) (l2 : (loadVar t2 ⟨b2, 0, none⟩).run P w = .ok v2 w) (l3 : (loadVar t3 ⟨b3, 0, none⟩).run P w = .ok v3 w) : (results fn tmps).run P w = .ok (.tuple #[v1, v2, v3]) w := by
  have g1 : tmps[a1]?.getD undef = .pointer (some ⟨b1, 0, none⟩) := by simpa using h1
  have g2 : tmps[a2]?.getD undef = .pointer (some ⟨b2, 0, none⟩) := by simpa using h2
  have g3 : tmps[a3]?.getD undef = .pointer (some ⟨b3, 0, none⟩) := by simpa using h3
  simp [results, h, g1, g2, g3, asAddr, l1, l2, l3]
theorem setCell_row {w : World} {b : Nat} {u v : Value} {t : TypeId} (h : w.heap[b]? = some (.cells #[u] t (0, 0))) : w.setCell ⟨b, 0, none⟩ v = w.setRow b #[v] := by
  unfold World.setCell World.setRow
  congr 1
  apply Array.ext_getElem?
  intro k
  by_cases e : b = k
  · subst e
    simp [Array.getElem?_modify, h]
  · simp [Array.getElem?_modify, e]
end Go.Proofs.YtndifilhfiooaaaDoor
