/- esc (layer 4): text. esc (layer 4): Unquote. esc (layer 4): Unquote, whole. The reference of layer 4: Unquote. What stands for a number in a text: digits, their number, what Scan answers. No program in it. -/
import Derived.Lib.AppendIntMem
import Derived.Recover
import Derived.RangeFuncBox
import Derived.Test.YtndifilhfiooaaaDoorPk05
import Derived.Test.YtndifilhfiooaaaDoorPk01
namespace Go.Proofs.YtndifilhfiooaaaDoor
set_option maxRecDepth 20000
set_option linter.unusedSimpArgs false
set_option linter.unusedVariables false
open Go.RowKit Go.Lib Go.Shelf
attribute [local go_sem] Oper.semAt_some
theorem bw_any (B b : Nat) (acc P : List UInt8) (w : World) (h : IsB B b (byteCells acc) w) (hlen : acc.length + P.length ≤ 1000000) (hBw : B ≤ w.heap.size) :
    Calls Tryd.prog 46 #[.pointer (some ⟨b, 0, none⟩), .string ⟨P.toArray⟩] w fun e w' => e = .returned (.tuple #[.int .i64 (P.length : Int), .nilIface]) ∧ IsB B b (byteCells (acc ++ P)) w' ∧ Below B w w' ∧ Lib.OthersKept ByTy (some b) w w' := by
  have hz : (⟨P.toArray⟩ : ByteArray).size = P.length := by rw [Lib.size_eq]
  refine (bwrites_any B b _ ⟨P.toArray⟩ w h (by rw [byteCells_length, hz]; omega) hBw).mono fun e w' ⟨he, hb, h2⟩ => ⟨by rw [he, hz], ?_, h2⟩
  rw [byteCells_append]
  exact .inr hb
theorem put1_any (n g : Nat) (hn : isCp n) (w : World) (hc : w.cell? ⟨g, 0, none⟩ = some (i32 (n : Int))) :
    Calls Tryd.prog 49 #[.slice (some ⟨g, 0, none⟩) 1 1] w fun e w' => e = .returned (.tuple #[.string ⟨(form n).toArray⟩, .int .i64 0]) ∧ Below w.heap.size w w' := by
  have z0 : ∀ i, i < 1 → i = 0 := fun i hi => by omega
  have hok : okP [(n : Int)] 1 := fun i hi => by rw [z0 i hi]; exact valid_of_cp hn
  have hn2 := hn.1
  refine (put_any g 0 1 1 [(n : Int)] w (by omega) (fun _ => blk_of_cell hc) (fun i hi => by rw [z0 i hi]; exact hc) (fun i hi => by rw [z0 i hi]; show _ ≤ (n : Int) ∧ (n : Int) ≤ _; omega) _ (fun _ => rfl)).mono fun e w' ⟨he, hb⟩ => ⟨?_, hb⟩
  rcases he with ⟨-, he⟩ | ⟨hno, -⟩
  · rw [he]
    unfold retP formsB formsB form
    simp
  · exact absurd hok hno
theorem form_few (n : Nat) : (form n).length ≤ 4 := rune_few _
/-- How text ends. -/
def OutT (t : ByteArray) (a b : Nat) (e : Ending) (w' : World) : Prop :=
  (∃ s i sh, e = .returned (.string ⟨s.toArray⟩) ∧ w'.heap[b]? = some (rdB t i sh) ∧ i ≤ t.size ∧ unq t.data.toList a = .ok (s, i)) ∨ ∃ m : Nat, e = .panicked (pch (m : Int)) ∧ unq t.data.toList a = .error m
theorem mean_other {m bld B : Nat} {bs : List Value} {w : World} (hm : MeanAt m w) (hB : IsB B bld bs w) : m ≠ bld := by
  rintro rfl
  obtain ⟨es, ck, h, -⟩ := hm
  rcases hB with ⟨-, v, h2, -⟩ | ⟨-, v, h2, -⟩ <;> (rw [h] at h2; cases h2)
theorem ShOk.others {b bld B : Nat} {sh : Value} {bs : List Value} {w w' : World} (h : ShOk b sh w) (hB : IsB B bld bs w) (hs : w.heap.size ≤ w'.heap.size) (ho : Lib.OthersKept ByTy (some bld) w w') : ShOk b sh w' := by
  rcases h with h | ⟨m, h1, h2, h3, h4⟩
  · exact .inl h
  · refine .inr ⟨m, h1, h2.keep ?_, h3, Nat.lt_of_lt_of_le h4 hs⟩
    obtain ⟨es, ck, hm, -⟩ := id h2
    rw [hm]
    exact ho m _ hm (fun e => mean_other h2 hB (Option.some.inj e)) (fun c fz e => by cases e)
/-- What text carries from round to round. -/
structure TxI (t : ByteArray) (a b bld : Nat) (w : World) (i : Nat) (acc : List UInt8) (sh : Value) (wr : World) : Prop where
  le : i ≤ t.size
  rd : wr.heap[b]? = some (rdB t i sh)
  ok : ShOk b sh wr
  oth : Oth b w wr
  bl : IsB w.heap.size bld (byteCells acc) wr
  eq : unq t.data.toList a = pre acc (unq t.data.toList i)
  few : acc.length ≤ 4 * i
theorem IsB.oth {B b bld : Nat} {bs : List Value} {w w' : World} (h : IsB B bld bs w) (hb : b < B) (ho : Oth b w w') : IsB B bld bs w' :=
  h.keep fun k hk hl => ho.block k hl (by omega)
set_option maxRecDepth 100000 in
set_option maxHeartbeats 4000000 in
theorem text_any (t : ByteArray) (a b : Nat) (w : World) (hb : w.heap[b]? = some (rdB t a (.map none))) (ht : t.size ≤ 100000) (ha : a ≤ t.size) (hT : TabsO b w) :
    Calls Tryd.prog 43 #[.pointer (some ⟨b, 0, none⟩)] w fun e w' => Oth b w w' ∧ OutT t a b e w' := by
  have hbl : b < w.heap.size := (Array.getElem?_eq_some_iff.1 hb).1
  have KP := Lib.hid (fun i sh w hb hi hT => plain_any t i b sh w hb ht hi hT)
  have KW := Lib.hid (fun bld acc P W h hl hs => bw_any w.heap.size bld acc P W h hl hs)
  have KS := Lib.hid (fun bld l W h hs => Tryd.Builder_String_any_k w.heap.size bld l W h hs)
  have KE := Lib.hid (fun i sh w hb hs => escape_any t i b sh w hb ht hs)
  have KPut := Lib.hid (fun n g hn w hc => put1_any n g hn w hc)
  go_enter Tryd.func43, Tryd.ntmps43
  obtain ⟨bld, hbld⟩ : ∃ x, w.heap.size = x := ⟨_, rfl⟩
  have hnew : (w.alloc (.cells #[.pointer none, .slice none 0 0] BTy)).heap[bld]? = some (.cells #[.pointer none, .slice none 0 0] BTy (0, 0)) := by rw [← hbld]; exact World.alloc_heap_new w _
  have hO0 : Oth b w (w.alloc (.cells #[.pointer none, .slice none 0 0] BTy)) := Oth.below ((Below.refl _ w).alloc (Nat.le_refl _) _)
  have hb0 : (w.alloc (.cells #[.pointer none, .slice none 0 0] BTy)).heap[b]? = some (rdB t a (.map none)) := (Below.heap_alloc w _ b hbl).trans hb
  have hI0 : TxI t a b bld w a [] (.map none) (w.alloc (.cells #[.pointer none, .slice none 0 0] BTy)) :=
    ⟨ha, hb0, .inl rfl, hO0, .inl ⟨by omega, _, hnew, World.ownsRowF_nil _ _ _ _, by simp [Value.ownBlock]⟩, by rw [pre_nil], by simp⟩
  have HI0 := Lib.hid hI0
  clear hnew hO0 hb0 hI0
  go_wp2_with fail

  go_loopw [] (fun wr => ∃ i acc sh, TxI t a b bld w i acc sh wr) (fun wr => match wr.cell? ⟨b, 1, none⟩ with | some v => t.size - (RowKit.intOf v).toNat | none => 0)
  case atStart => exact ⟨a, [], _, HI0.out⟩
  case round =>
    obtain ⟨i, acc, sh, hI⟩ := hrel
    have hsz := hI.oth.size
    go_wp2_with fail
    refine (KP.out i sh wr hI.rd hI.le (hT.keep hI.oth)).mono ?_
    rintro e w1 ⟨ho1, ⟨j, hij, hj, hC, rfl, hb1, hU⟩ | ⟨m, rfl, hU⟩⟩
    · have hsg : (seg t.data.toList i j).length = j - i := by
        unfold seg
        rw [List.length_take, List.length_drop, len_of]
        omega
      obtain ⟨P, hP⟩ : ∃ P, seg t.data.toList i j = P := ⟨_, rfl⟩
      rw [hP] at hsg hU ⊢
      have hfew := hI.few
      have hI1 : TxI t a b bld w j acc sh w1 → True := fun _ => trivial
      have hB1 : IsB w.heap.size bld (byteCells acc) w1 := hI.bl.oth hbl ho1
      have hok1 : ShOk b sh w1 := hI.ok.keep ho1
      have hoo1 := hI.oth.trans ho1
      have HI := Lib.hid hI
      clear hI hI1
      go_wp2_with fail
      refine (KW.out bld acc P w1 hB1 (by omega) hoo1.size).mono ?_
      rintro e w2 ⟨rfl, hB2, hbw2, hot2⟩
      have hb2 : w2.heap[b]? = some (rdB t j sh) := (hbw2.block b hbl).trans hb1
      have hok2 := hok1.others hB1 hbw2.size hot2
      have hoo2 : Oth b w w2 := ⟨hbw2.os.trans hoo1.os, hbw2.tape.trans hoo1.tape, hbw2.output.trans hoo1.output, Nat.le_trans hoo1.size hbw2.size, fun k hk hne => (hbw2.block k hk).trans (hoo1.block k hk hne)⟩
      have KT := take_yes t j b sh w2 hb2 ht hj
      rw [at_get hj] at KT
      obtain ⟨C, hCC⟩ : ∃ C, at_ t.data.toList j = C := ⟨_, rfl⟩
      rw [hCC] at KT hC
      have KT2 := Lib.hid KT
      clear KT hB1 hok1 hoo1 hot2 hbw2 hb1 ho1
      rcases hC with rfl | rfl
      · go_wp2_with fail
        refine KT2.out.mono ?_
        rintro e w3 ⟨rfl, hb3, ho3⟩
        have hB3 := hB2.oth hbl ho3
        have hoo3 := hoo2.trans ho3
        go_wp2_with fail
        refine (KS.out bld (acc ++ P) w3 hB3 hoo3.size).mono ?_
        rintro e w4 ⟨rfl, -, hbw4, -⟩
        have hoo4 : Oth b w w4 := ⟨hbw4.os.trans hoo3.os, hbw4.tape.trans hoo3.tape, hbw4.output.trans hoo3.output, Nat.le_trans hoo3.size hbw4.size, fun k hk hne => (hbw4.block k hk).trans (hoo3.block k hk hne)⟩
        have hb4 := (hbw4.block b hbl).trans hb3
        go_wp2_with fail
        go_ret
        refine ⟨hoo4, .inl ⟨acc ++ P, j + 1, sh, rfl, hb4, hj, ?_⟩⟩
        rw [HI.out.eq, hU, pre_pre, unq_quote (by rw [len_of]; exact hj) hCC]
        simp [pre]
      · have hesc := unq_esc (L := t.data.toList) (i := j) (by rw [len_of]; exact hj) hCC
        go_wp2_with fail
        refine KT2.out.mono ?_
        rintro e w3 ⟨rfl, hb3, ho3⟩
        have hB3 := hB2.oth hbl ho3
        have hoo3 := hoo2.trans ho3
        have hok3 := hok2.keep ho3
        go_wp2_with fail
        refine (KE.out (j + 1) sh w3 hb3 hok3).mono ?_
        rintro e w4 ⟨ho4, hr4⟩
        have hoo4 := hoo3.trans ho4
        have hB4 := hB3.oth hbl ho4
        cases hv : escV t.data.toList (j + 1) with
        | error m =>
          rw [hv] at hr4 hesc
          obtain rfl : e = .panicked (pch (m : Int)) := hr4
          go_wp2_with fail
          exact ⟨rfl, hoo4, .inr ⟨m, rfl, by rw [HI.out.eq, hU, hesc]; rfl⟩⟩
        | ok r =>
          obtain ⟨n, k⟩ := r
          rw [hv] at hr4 hesc
          obtain ⟨rfl, ⟨sh', hb4, hok4⟩, hcp, hk⟩ := hr4
          simp only at hesc hok4
          have hjk := esc_lt hv
          have hfn := form_few n
          have hcell : (w4.alloc (.cells #[i32 (n : Int)] 21)).cell? ⟨w4.heap.size, 0, none⟩ = some (i32 (n : Int)) := (cell_new_l w4 _ _).1
          have KPn := Lib.hid (KPut.out n w4.heap.size hcp _ hcell)
          have hB5 : IsB w.heap.size bld (byteCells (acc ++ P)) (w4.alloc (.cells #[i32 (n : Int)] 21)) := hB4.keep fun k hk hl => Below.heap_alloc w4 _ k hl
          have ho5 : Oth b w4 (w4.alloc (.cells #[i32 (n : Int)] 21)) := Oth.below ((Below.refl _ w4).alloc (Nat.le_refl _) _)
          have hb5 := (Below.heap_alloc w4 (.cells #[i32 (n : Int)] 21) b (Nat.lt_of_lt_of_le hbl hoo4.size)).trans hb4
          have hok5 := hok4.keep ho5
          have H5 := Lib.hid (And.intro hB5 (And.intro hb5 (And.intro hok5 (hoo4.trans ho5))))
          clear hcell hB5 ho5 hb5 hok5
          go_wp2_with fail
          refine KPn.out.mono ?_
          rintro e w6 ⟨rfl, hbw6⟩
          obtain ⟨hB5, hb5, hok5, hoo5⟩ := H5.out
          have hB6 : IsB w.heap.size bld (byteCells (acc ++ P)) w6 := hB5.keep fun k hk hl => hbw6.block k hl
          have ho6 : Oth b _ w6 := Oth.below hbw6
          have hb6 := (hbw6.block b (Nat.lt_of_lt_of_le hbl hoo5.size)).trans hb5
          have hok6 := hok5.keep ho6
          have hoo6 := hoo5.trans ho6
          have hI6 : TxI t a b bld w k (acc ++ P) sh' w6 → True := fun _ => trivial
          clear hB5 hb5 hok5 hoo5 ho6 hbw6 H5 KPn hI6
          go_wp2_with fail
          refine (KW.out bld (acc ++ P) (form n) w6 hB6 (by rw [List.length_append]; omega) hoo6.size).mono ?_
          rintro e w7 ⟨rfl, hB7, hbw7, hot7⟩
          have hb7 : w7.heap[b]? = some (rdB t k sh') := (hbw7.block b hbl).trans hb6
          have hok7 := hok6.others hB6 hbw7.size hot7
          have hoo7 : Oth b w w7 := ⟨hbw7.os.trans hoo6.os, hbw7.tape.trans hoo6.tape, hbw7.output.trans hoo6.output, Nat.le_trans hoo6.size hbw7.size, fun k hk hne => (hbw7.block k hk).trans (hoo6.block k hk hne)⟩
          have hm1 := (rd_cells HI.out.rd).2.1
          have hm2 := (rd_cells hb7).2.1
          have hI7 : TxI t a b bld w k (acc ++ P ++ form n) sh' w7 := ⟨hk, hb7, hok7, hoo7, hB7, by rw [HI.out.eq, hU, hesc, pre_pre, pre_pre], by rw [List.length_append, List.length_append]; omega⟩
          have H7 := Lib.hid (And.intro hI7 (And.intro hm1 hm2))
          clear hI7 hm1 hm2 hB7 hb7 hok7 hoo7 hot7 hbw7
          go_wp2_with fail
          go_roundw
          case rel => exact ⟨_, _, _, H7.out.1⟩
          case measure =>
            rw [H7.out.2.1, H7.out.2.2]
            simp only [RowKit.intOf]
            omega
    · go_wp2_with fail
      exact ⟨rfl, hI.oth.trans ho1, .inr ⟨m, rfl, by rw [hI.eq, hU]; rfl⟩⟩
end Go.Proofs.YtndifilhfiooaaaDoor
namespace Go.Proofs.YtndifilhfiooaaaDoor
set_option maxRecDepth 20000
set_option linter.unusedSimpArgs false
set_option linter.unusedVariables false
open Go.RowKit Go.Lib Go.Shelf
attribute [local go_sem] Oper.semAt_some
/-- What the closure leaves: the three results, and all else as it was. -/
structure Laid3 (p q r : Nat) (s : List UInt8) (i : Int) (m : Int) (w w' : World) : Prop where
  bs : Boxed w' p 9 (.string ⟨s.toArray⟩)
  bi : Boxed w' q 3 (.int .i64 i)
  be : Boxed w' r 25 (.int .i64 m)
  os : w'.os = w.os
  tape : w'.tape = w.tape
  output : w'.output = w.output
  size : w.heap.size ≤ w'.heap.size
  block : ∀ k, k < w.heap.size → k ≠ p → k ≠ q → k ≠ r → w'.heap[k]? = w.heap[k]?
theorem laid3_set (p q r : Nat) (vs vi ve : Value) (s : List UInt8) (i m : Int) (w : World) (ob : Obj) (h1 : Boxed w p 9 vs) (h2 : Boxed w q 3 vi) (h3 : Boxed w r 25 ve) (hpq : p ≠ q) (hpr : p ≠ r) (hqr : q ≠ r) :
    Laid3 p q r s i m w ((((w.setCell ⟨p, 0, none⟩ (.string ⟨s.toArray⟩)).setCell ⟨q, 0, none⟩ (.int .i64 i)).setCell ⟨r, 0, none⟩ (.int .i64 m)).alloc ob).drew := by
  have a1 := h1.set (.string ⟨s.toArray⟩)
  have a2 := a1.other (B' := q) (by omega) (.int .i64 i)
  have a3 := a2.other (B' := r) (by omega) (.int .i64 m)
  have b1 := h2.other (B' := p) (by omega) (.string ⟨s.toArray⟩)
  have b2 := b1.set (.int .i64 i)
  have b3 := b2.other (B' := r) (by omega) (.int .i64 m)
  have d1 := h3.other (B' := p) (by omega) (.string ⟨s.toArray⟩)
  have d2 := d1.other (B' := q) (by omega) (.int .i64 i)
  have d3 := d2.set (.int .i64 m)
  refine ⟨a3.alloc _, b3.alloc _, d3.alloc _, rfl, rfl, rfl, by simp, fun k hk hp hq hr => ?_⟩
  refine (Below.heap_alloc _ _ k (by simpa using hk)).trans ?_
  rw [Below.heap_setCell _ ⟨r, 0, none⟩ _ k hr, Below.heap_setCell _ ⟨q, 0, none⟩ _ k hq, Below.heap_setCell _ ⟨p, 0, none⟩ _ k hp]
theorem assert_wrong (m : Int) (w : World) : (Instr.typeAssert (.iface 80 (.agg #[.int .i64 m])) 20 80 true).run Tryd.prog w = .ok (.tuple #[.agg #[.int .i64 m], .bool true]) w := rfl
set_option maxRecDepth 100000 in
set_option maxHeartbeats 2000000 in
theorem catch_panic (p q r : Nat) (vs vi ve : Value) (m : Int) (w : World) (h1 : Boxed w p 9 vs) (h2 : Boxed w q 3 vi) (h3 : Boxed w r 25 ve) (hpq : p ≠ q) (hpr : p ≠ r) (hqr : q ≠ r) :
    CallsD Tryd.prog 40 #[.pointer (some ⟨p, 0, none⟩), .pointer (some ⟨q, 0, none⟩), .pointer (some ⟨r, 0, none⟩)] (.panicking (pch m)) w fun e u' w' =>
      e = .returned (.tuple #[]) ∧ u' = .panicking [{ v := .iface 80 (.agg #[.int .i64 m]), recovered := true }] ∧ Laid3 p q r [] 0 m w w' := by
  refine callsD_of_wpS Tryd.func40 rfl fun c₀ cs hu => ?_
  have fp := h1.lt
  have fq := h2.lt
  have fr := h3.lt
  have c1 := h1.cell
  have c2 := h2.cell
  have c3 := h3.cell
  have z1 := h1.frozen
  have z2 := h2.frozen
  have z3 := h3.frozen
  apply wpS_seq
  apply wpS_region
  simp [wpOpsS, go_sem, recoverD, hu, Tryd.ntmps40, Exit.thenS, pch]
  have hta := assert_wrong m w
  refine wpS_of_wp ?_
  go_wp2_with (go_region)
  all_goals
    have HL := laid3_set p q r vs vi ve [] 0 m w (.cells #[.int .i64 m] 80) h1 h2 h3 hpq hpr hqr
    cases c₀
    simp_all [bodyPostS, results, Tryd.results40]
set_option maxRecDepth 100000 in
set_option maxHeartbeats 2000000 in
theorem catch_none (p q r : Nat) (w : World) :
    CallsD Tryd.prog 40 #[.pointer (some ⟨p, 0, none⟩), .pointer (some ⟨q, 0, none⟩), .pointer (some ⟨r, 0, none⟩)] .returning w fun e u' w' =>
      e = .returned (.tuple #[]) ∧ u' = .returning ∧ w' = w := by
  refine callsD_of_wpS Tryd.func40 rfl fun c₀ cs hu => ?_
  apply wpS_seq
  apply wpS_region
  simp [wpOpsS, go_sem, recoverD, hu, Tryd.ntmps40, Exit.thenS]
  refine wpS_of_wp ?_
  go_wp2_with fail
  cases c₀
  simp_all [bodyPostS, results, Tryd.results40]
end Go.Proofs.YtndifilhfiooaaaDoor
namespace Go.Proofs.YtndifilhfiooaaaDoor
set_option maxRecDepth 20000
set_option linter.unusedSimpArgs false
set_option linter.unusedVariables false
open Go.RowKit Go.Lib Go.Shelf
attribute [local go_sem] Oper.semAt_some
def unquoteV (L : List UInt8) (a : Int) : Except Nat (List UInt8 × Nat) :=
  if a < 0 ∨ (L.length : Int) < a then .error 1 else if L.length ≤ a.toNat then .error 5 else if at_ L a.toNat ≠ 34 then .error 6 else unq L (a.toNat + 1)
def ansU : Except Nat (List UInt8 × Nat) → List UInt8 × Nat × Nat
  | .ok (s, i) => (s, i, 0)
  | .error m => ([], 0, m)
def retU (x : List UInt8 × Nat × Nat) : Ending := .returned (.tuple #[.string ⟨x.1.toArray⟩, .int .i64 (x.2.1 : Int), .int .i64 (x.2.2 : Int)])
theorem Laid3.post {p : Nat} {s : List UInt8} {i m : Int} {w0 w w' : World} (h : Laid3 p (p + 1) (p + 1 + 1) s i m w w') (hp : w0.heap.size ≤ p) (hb : Below w0.heap.size w0 w) : Below w0.heap.size w0 w' :=
  ⟨h.os.trans hb.os, h.tape.trans hb.tape, h.output.trans hb.output, Nat.le_trans hb.size h.size, fun k hk => (h.block k (Nat.lt_of_lt_of_le hk hb.size) (by omega) (by omega) (by omega)).trans (hb.block k hk)⟩
set_option maxRecDepth 100000 in
set_option maxHeartbeats 4000000 in
theorem unquote_any (t : ByteArray) (a : Int) (w : World) (ht : t.size ≤ 100000) (hT : Tabs w) :
    Calls Tryd.prog 31 #[.string t, .int .i64 a] w fun e w' => e = retU (ansU (unquoteV t.data.toList a)) ∧ Below w.heap.size w w' := by
  have hmf : ∀ (fn : Fn) (first cap : Array Value) (w : World), (Instr.makeFunc fn first cap).run Tryd.prog w = .ok (.func fn first cap) w := fun _ _ _ _ => rfl
  obtain ⟨R, hR⟩ : ∃ R, unquoteV t.data.toList a = R := ⟨_, rfl⟩
  rw [hR]
  have HR := Lib.hid hR
  clear hR
  obtain ⟨p, hp⟩ : ∃ p, w.heap.size = p := ⟨_, rfl⟩
  obtain ⟨W0, hW0⟩ : ∃ W0, ((w.alloc (.cells #[.string ⟨#[]⟩] 9)).alloc (.cells #[.int .i64 0] 3)).alloc (.cells #[.int .i64 0] 25) = W0 := ⟨_, rfl⟩
  have b1 : Boxed W0 p 9 (.string ⟨#[]⟩) := by rw [← hW0, ← hp]; exact ((Boxed.new w _ _).alloc _).alloc _
  have b2 : Boxed W0 (p + 1) 3 (.int .i64 0) := by
    rw [← hW0, ← hp]
    have h := Boxed.new (w.alloc (.cells #[.string ⟨#[]⟩] 9)) 3 (.int .i64 0)
    rw [World.size_alloc] at h
    exact h.alloc _
  have b3 : Boxed W0 (p + 1 + 1) 25 (.int .i64 0) := by
    rw [← hW0, ← hp]
    have h := Boxed.new ((w.alloc (.cells #[.string ⟨#[]⟩] 9)).alloc (.cells #[.int .i64 0] 3)) 25 (.int .i64 0)
    rw [World.size_alloc, World.size_alloc] at h
    exact h
  have hz0 : W0.heap.size = p + 3 := by rw [← hW0, ← hp]; simp
  have hB0 : Below w.heap.size w W0 := by rw [← hW0]; exact (((Below.refl _ w).alloc (Nat.le_refl _) _).alloc (by simp) _).alloc (by simp; omega) _
  have KY1 := Lib.hid (fun w => must_yes 1 w)
  have KN1 := Lib.hid (fun w => must_no 1 w)
  have HW0 := Lib.hid hW0
  clear hW0
  -- the end by a panic
  have dies : ∀ (m : Nat) (W : World), R = .error m → Boxed W p 9 (.string ⟨#[]⟩) → Boxed W (p + 1) 3 (.int .i64 0) → Boxed W (p + 1 + 1) 25 (.int .i64 0) → Below w.heap.size w W →
      ∀ (tm : Array Value), tm[4]? = some (.pointer (some ⟨p, 0, none⟩)) → tm[5]? = some (.pointer (some ⟨p + 1, 0, none⟩)) → tm[6]? = some (.pointer (some ⟨p + 1 + 1, 0, none⟩)) →
      Leaves Tryd.prog Tryd.f31 tm (fun e w' => e = retU (ansU R) ∧ Below w.heap.size w w') [{ target := .fn (.func 40) #[.pointer (some ⟨p, 0, none⟩), .pointer (some ⟨p + 1, 0, none⟩), .pointer (some ⟨p + 1 + 1, 0, none⟩)], args := #[] }] (.panicking (pch (m : Int))) W := by
    intro m W hR h1 h2 h3 hb tm t4 t5 t6
    refine leaves_cons (f := 40) (args := #[.pointer (some ⟨p, 0, none⟩), .pointer (some ⟨p + 1, 0, none⟩), .pointer (some ⟨p + 1 + 1, 0, none⟩)]) (by simp) (by simp [go_sem]) ?_
    refine (catch_panic p (p + 1) (p + 1 + 1) _ _ _ (m : Int) W h1 h2 h3 (by omega) (by omega) (by omega)).mono ?_
    rintro e u' w'' ⟨rfl, rfl, hL⟩
    have hb2 := hL.post (by omega) hb
    have k1 := hL.bs.cell
    have k2 := hL.bi.cell
    have k3 := hL.be.cell
    rw [hR]
    simp [Leaves, settle, results, Tryd.results31, go_sem, k1, k2, k3, t4, t5, t6, retU, ansU, hb2]
  have lives : ∀ (s : List UInt8) (i : Nat) (W : World), R = .ok (s, i) → Boxed W p 9 (.string ⟨s.toArray⟩) → Boxed W (p + 1) 3 (.int .i64 (i : Int)) → Boxed W (p + 1 + 1) 25 (.int .i64 0) → Below w.heap.size w W →
      ∀ (tm : Array Value), tm[4]? = some (.pointer (some ⟨p, 0, none⟩)) → tm[5]? = some (.pointer (some ⟨p + 1, 0, none⟩)) → tm[6]? = some (.pointer (some ⟨p + 1 + 1, 0, none⟩)) →
      Leaves Tryd.prog Tryd.f31 tm (fun e w' => e = retU (ansU R) ∧ Below w.heap.size w w') [{ target := .fn (.func 40) #[.pointer (some ⟨p, 0, none⟩), .pointer (some ⟨p + 1, 0, none⟩), .pointer (some ⟨p + 1 + 1, 0, none⟩)], args := #[] }] .returning W := by
    intro s i W hR h1 h2 h3 hb tm t4 t5 t6
    refine leaves_cons (f := 40) (args := #[.pointer (some ⟨p, 0, none⟩), .pointer (some ⟨p + 1, 0, none⟩), .pointer (some ⟨p + 1 + 1, 0, none⟩)]) (by simp) (by simp [go_sem]) ?_
    refine (catch_none p (p + 1) (p + 1 + 1) W).mono ?_
    rintro e u' w'' ⟨rfl, rfl, rfl⟩
    have k1 := h1.cell
    have k2 := h2.cell
    have k3 := h3.cell
    rw [hR]
    simp [Leaves, settle, results, Tryd.results31, go_sem, k1, k2, k3, t4, t5, t6, retU, ansU, hb]
  have KY6 := Lib.hid (fun w => must_yes 6 w)
  have KN6 := Lib.hid (fun w => must_no 6 w)
  have hTz := tabs_size hT
  have hlen := len_of t
  have dies0 : ∀ (m : Nat) (W : World), R = .error m → Oth (p + 3) W0 W → ∀ (tm : Array Value), tm[4]? = some (.pointer (some ⟨p, 0, none⟩)) → tm[5]? = some (.pointer (some ⟨p + 1, 0, none⟩)) → tm[6]? = some (.pointer (some ⟨p + 1 + 1, 0, none⟩)) →
      Leaves Tryd.prog Tryd.f31 tm (fun e w' => e = retU (ansU R) ∧ Below w.heap.size w w') [{ target := .fn (.func 40) #[.pointer (some ⟨p, 0, none⟩), .pointer (some ⟨p + 1, 0, none⟩), .pointer (some ⟨p + 1 + 1, 0, none⟩)], args := #[] }] (.panicking (pch (m : Int))) W := fun m W hR ho =>
    dies m W hR ((ho.block p (by omega) (by omega)).trans b1) ((ho.block (p + 1) (by omega) (by omega)).trans b2) ((ho.block (p + 1 + 1) (by omega) (by omega)).trans b3) (hB0.trans (ho.low (by omega) (by omega)))
  have HD := Lib.hid dies0
  have HL := Lib.hid lives
  clear dies dies0 lives
  by_cases c1 : a < 0
  · have hRe : R = .error 1 := by rw [← HR.out]; unfold unquoteV; rw [if_pos (.inl c1)]
    go_enter_defers Tryd.func31, Tryd.ntmps31
    go_wp2_with fail
    rw [HW0.out]
    refine (KN1.out _).mono ?_
    rintro e w1 ⟨rfl, rfl⟩
    go_wp2_with fail
    exact HD.out 1 _ hRe (Oth.refl _ _) _ rfl rfl rfl
  have c1' : 0 ≤ a := by omega
  by_cases c2 : (t.size : Int) < a
  · have hRe : R = .error 1 := by rw [← HR.out]; unfold unquoteV; rw [if_pos (.inr (by omega))]
    go_enter_defers Tryd.func31, Tryd.ntmps31
    go_wp2_with fail
    rw [HW0.out, decide_eq_false (show ¬ a ≤ (t.size : Int) by omega)]
    refine (KN1.out _).mono ?_
    rintro e w1 ⟨rfl, rfl⟩
    go_wp2_with fail
    exact HD.out 1 _ hRe (Oth.refl _ _) _ rfl rfl rfl
  have c2' : a ≤ (t.size : Int) := by omega
  obtain ⟨i, hi⟩ : ∃ i : Nat, a = (i : Int) := ⟨a.toNat, by omega⟩
  subst hi
  have hRv : unquoteV t.data.toList (i : Int) = if t.data.toList.length ≤ i then .error 5 else if at_ t.data.toList i ≠ 34 then .error 6 else unq t.data.toList (i + 1) := by
    unfold unquoteV
    rw [if_neg (by omega)]
    rfl
  have HRV := Lib.hid (HR.out.symm.trans hRv)
  clear hRv HR c1
  have KT := Lib.hid (fun b w hb ha => take_yes t i b (.map none) w hb ht ha)
  have KU := Lib.hid (fun b w hb ha => take_no t i b (.map none) w hb ht ha)
  have KX := Lib.hid (fun b w hb ha hT => text_any t (i + 1) b w hb ht ha hT)
  have hnew : (W0.alloc (rdB t i (.map none))).heap[p + 3]? = some (rdB t i (.map none)) := by rw [← hz0]; exact World.alloc_heap_new W0 _
  have hoA : Oth (p + 3) W0 (W0.alloc (rdB t i (.map none))) := Oth.below ((Below.refl _ W0).alloc (Nat.le_refl _) _)
  have hTA : TabsO (p + 3) (W0.alloc (rdB t i (.map none))) := by
    refine ⟨tabs_low hTz hT (hB0.trans ((Below.refl _ W0).alloc (by omega) _)), ?_, ?_⟩ <;> omega
  go_enter_defers Tryd.func31, Tryd.ntmps31
  go_wp2_with fail
  rw [HW0.out]
  refine (KY1.out _).mono ?_
  rintro e w1 ⟨rfl, rfl⟩
  go_wp2_with fail
  have hoB : ∀ {W}, Oth (p + 3) (w1.alloc (rdB t i (.map none))) W → Oth (p + 3) w1 W := fun h => hoA.trans h
  obtain ⟨W2, hW2⟩ : ∃ W2, w1.alloc (rdB t i (.map none)) = W2 := ⟨_, rfl⟩
  have hW2' : w1.alloc (.cells #[.string t, .int .i64 (i : Int), .map none] RdT) = W2 := hW2
  rw [hW2] at hnew hoA hTA hoB
  rw [hW2']
  clear hW2 hW2'
  by_cases c3 : i < t.size
  · have hRv := HRV.out
    rw [if_neg (by omega)] at hRv
    have KT1 := KT.out (p + 3) W2 hnew c3
    rw [at_get c3] at KT1
    obtain ⟨C, hC⟩ : ∃ C, at_ t.data.toList i = C := ⟨_, rfl⟩
    rw [hC] at KT1 hRv
    refine KT1.mono ?_
    rintro e w3 ⟨rfl, hb3, ho3⟩
    by_cases c4 : C = 34
    · have e4 : ((C : Int) == 34) = true := by simp [c4]
      have hi1 : i + 1 ≤ t.size := c3
      rw [if_neg (by simp [c4])] at hRv
      have HRv := Lib.hid hRv
      clear hRv HRV KT KU c4 hC KT1 c3
      go_wp2_with fail
      refine (KY6.out _).mono ?_
      rintro e w4 ⟨rfl, rfl⟩
      go_wp2_with fail
      refine (KX.out (p + 3) _ hb3 hi1 (hTA.keep ho3)).mono ?_
      rintro e w5 ⟨ho5, ⟨s, j, sh, rfl, hb5, hj, hU⟩ | ⟨m, rfl, hU⟩⟩
      · have hoo := hoB (ho3.trans ho5)
        have x1 : Boxed w5 p 9 _ := (hoo.block p (by omega) (by omega)).trans b1
        have x2 : Boxed w5 (p + 1) 3 _ := (hoo.block (p + 1) (by omega) (by omega)).trans b2
        have x3 : Boxed w5 (p + 1 + 1) 25 _ := (hoo.block (p + 1 + 1) (by omega) (by omega)).trans b3
        have y1 := x1.cell
        have z1 := x1.frozen
        have y4 := (rd_cells hb5).2.1
        have X1 := x1.set (.string ⟨s.toArray⟩)
        have X2 := x2.other (B' := p) (by omega) (.string ⟨s.toArray⟩)
        have X3 := x3.other (B' := p) (by omega) (.string ⟨s.toArray⟩)
        have Y1 := X1.cell
        have Z1 := X1.frozen
        have Y2 := X2.cell
        have Z2 := X2.frozen
        have Y3 := X3.cell
        have Z3 := X3.frozen
        have hbr : (w5.setCell ⟨p, 0, none⟩ (.string ⟨s.toArray⟩)).heap[p + 3]? = some (rdB t j sh) := (Below.heap_setCell w5 ⟨p, 0, none⟩ _ (p + 3) (by show p + 3 ≠ p; omega)).trans hb5
        have Y4 := (rd_cells hbr).2.1
        have A1 := ((X1.set (.string ⟨s.toArray⟩)).other (B' := p + 1) (by omega) (.int .i64 (j : Int))).other (B' := p + 1 + 1) (by omega) (.int .i64 0)
        have A2 := ((X2.other (B' := p) (by omega) (.string ⟨s.toArray⟩)).set (.int .i64 (j : Int))).other (B' := p + 1 + 1) (by omega) (.int .i64 0)
        have A3 := ((X3.other (B' := p) (by omega) (.string ⟨s.toArray⟩)).other (B' := p + 1) (by omega) (.int .i64 (j : Int))).set (.int .i64 0)
        have A4 : Below w.heap.size w ((((w5.setCell ⟨p, 0, none⟩ (.string ⟨s.toArray⟩)).setCell ⟨p, 0, none⟩ (.string ⟨s.toArray⟩)).setCell ⟨p + 1, 0, none⟩ (.int .i64 (j : Int))).setCell ⟨p + 1 + 1, 0, none⟩ (.int .i64 0)) :=
          ((((hB0.trans (hoo.low (by omega) (by omega))).setCell (p := ⟨p, 0, none⟩) (by show w.heap.size ≤ p; omega) _).setCell (p := ⟨p, 0, none⟩) (by show w.heap.size ≤ p; omega) _).setCell (p := ⟨p + 1, 0, none⟩) (by show w.heap.size ≤ p + 1; omega) _).setCell (p := ⟨p + 1 + 1, 0, none⟩) (by show w.heap.size ≤ p + 1 + 1; omega) _
        have HA := Lib.hid (And.intro A1 (And.intro A2 (And.intro A3 A4)))
        clear A1 A2 A3 A4 X1 X2 X3 hb3 ho3 hb5 x2 x3 ho5
        go_wp2_with fail
        obtain ⟨W6, hW6⟩ : ∃ W6, w5.setCell ⟨p, 0, none⟩ (.string ⟨s.toArray⟩) = W6 := ⟨_, rfl⟩
        rw [hW6] at HA Y1 Z1 Y2 Z2 Y3 Z3 Y4 hbr ⊢
        clear hW6 x1 y1 z1 y4
        go_wp2_with (go_region)
        refine HL.out s j _ (HRv.out.trans hU) ?_ ?_ ?_ ?_ _ rfl rfl rfl
        · exact HA.out.1
        · exact HA.out.2.1
        · exact HA.out.2.2.1
        · exact ⟨HA.out.2.2.2.os, HA.out.2.2.2.tape, HA.out.2.2.2.output, HA.out.2.2.2.size, HA.out.2.2.2.block⟩
      · go_wp2_with fail
        exact HD.out m _ (HRv.out.trans hU) (hoB (ho3.trans ho5)) _ rfl rfl rfl
    · have e4 : ((C : Int) == 34) = false := by simp; omega
      rw [if_pos c4] at hRv
      have HRv := Lib.hid hRv
      clear hRv HRV KT KU c4 hC KT1 c3
      go_wp2_with fail
      refine (KN6.out _).mono ?_
      rintro e w4 ⟨rfl, rfl⟩
      go_wp2_with fail
      exact HD.out 6 _ HRv.out (hoB ho3) _ rfl rfl rfl
  · have hRv := HRV.out
    rw [if_pos (by omega)] at hRv
    refine (KU.out (p + 3) W2 hnew (by omega)).mono ?_
    rintro e w3 ⟨rfl, ho3⟩
    have HRv := Lib.hid hRv
    clear hRv HRV KT KU c3
    go_wp2_with fail
    exact HD.out 5 _ HRv.out (hoB ho3) _ rfl rfl rfl
end Go.Proofs.YtndifilhfiooaaaDoor
namespace Go.Proofs.YtndifilhfiooaaaDoor
set_option maxRecDepth 20000
set_option linter.unusedSimpArgs false
set_option linter.unusedVariables false
open Go.RowKit Go.Lib Go.Shelf
attribute [local go_sem] Oper.semAt_some
theorem cat_bytes (a b : List UInt8) : (⟨a.toArray⟩ : ByteArray) ++ ⟨b.toArray⟩ = ⟨(a ++ b).toArray⟩ := by
  apply ByteArray.ext
  rw [ByteArray.data_append]
  simp
theorem size_bytes (a : List UInt8) : (⟨a.toArray⟩ : ByteArray).size = a.length := by rw [Lib.size_eq]
theorem num_no0 {L : List UInt8} {a : Nat} : numV L a ≠ .error 0 := by
  intro h
  unfold numV at h
  split at h
  · rename_i m hm
    cases h
    exact four_no0 _ _ _ _ hm
  split at h
  · cases h
  split at h
  · cases h
  split at h
  · cases h
  split at h
  · cases h
  split at h
  · cases h
  split at h
  · cases h
  split at h
  · rename_i m hm
    cases h
    exact four_no0 _ _ _ _ hm
  split at h <;> cases h
theorem esc_no0 {L : List UInt8} {a : Nat} : escV L a ≠ .error 0 := by
  intro h
  unfold escV at h
  split at h
  · cases h
  split at h
  · exact num_no0 h
  split at h <;> cases h
theorem num_cp {L : List UInt8} {a n a' : Nat} (h : numV L a = .ok (n, a')) : isCp n := by
  unfold numV at h
  split at h
  · cases h
  rename_i x hx
  have hx2 := four_lt _ _ _ _ _ hx
  split at h
  · rename_i hc
    cases h
    exact ⟨by omega, by omega⟩
  split at h
  · cases h
  split at h
  · cases h
  split at h
  · cases h
  split at h
  · cases h
  split at h
  · cases h
  split at h
  · cases h
  rename_i y hy
  have hy2 := four_lt _ _ _ _ _ hy
  split at h
  · cases h
  have := (Prod.mk.inj (Except.ok.inj h)).1
  exact ⟨by omega, by omega⟩
theorem esc_cp {L : List UInt8} {a n a' : Nat} (h : escV L a = .ok (n, a')) : isCp n := by
  unfold escV at h
  split at h
  · cases h
  split at h
  · exact num_cp h
  split at h
  · cases h
  rename_i hm
  cases h
  exact mean_cp hm
theorem nx_ascii {L : List UInt8} {i : Nat} (h : i < L.length) (hc : at_ L i < 128) : nx (L.drop i) = some (at_ L i, 1) := by
  obtain ⟨c, hcc⟩ : ∃ c, at_ L i = c := ⟨_, rfl⟩
  rw [hcc] at hc ⊢
  have hcp : isCp c := ⟨by omega, by omega⟩
  have hf : form c = [UInt8.ofNat c] := by
    rcases form_cases hcp with ⟨-, hm⟩ | ⟨h1, -⟩ | ⟨h1, -⟩ | ⟨h1, -⟩
    · have := form_of hm
      rw [← this]
      rfl
    · omega
    · omega
    · omega
  refine nx_iff.2 ⟨hcp, ?_, by rw [hf]; rfl⟩
  rw [hf, List.drop_eq_getElem_cons h]
  have : L[i] = UInt8.ofNat c := by
    rw [← hcc]
    unfold at_
    rw [List.getD_eq_getElem?_getD, List.getElem?_eq_getElem h]
    simp
  rw [this]
  exact ⟨_, rfl⟩
set_option maxRecDepth 100000 in
set_option maxHeartbeats 8000000 in
theorem runquote_any (t : ByteArray) (a : Int) (w : World) (ht : t.size ≤ 10000) :
    Calls Tryd.prog 17 #[.string t, .int .i64 a] w fun e w' => e = retU (ansU (unquoteV t.data.toList a)) ∧ Below w.heap.size w w' := by
  obtain ⟨R, hR⟩ : ∃ R, unquoteV t.data.toList a = R := ⟨_, rfl⟩
  rw [hR]
  have HR := Lib.hid hR
  clear hR
  have hlen := len_of t
  by_cases c1 : a < 0
  · have hRe : R = .error 1 := by rw [← HR.out]; unfold unquoteV; rw [if_pos (.inl c1)]
    have HRe := Lib.hid hRe
    clear hRe
    go_enter Tryd.func17, Tryd.ntmps17
    go_wp2_with fail
    go_ret3
    rw [HRe.out]
    exact ⟨rfl, Below.refl _ _⟩
  by_cases c2 : (t.size : Int) < a
  · have hRe : R = .error 1 := by rw [← HR.out]; unfold unquoteV; rw [if_pos (.inr (by omega))]
    have HRe := Lib.hid hRe
    clear hRe
    go_enter Tryd.func17, Tryd.ntmps17
    go_wp2_with fail
    go_ret3
    rw [HRe.out]
    exact ⟨rfl, Below.refl _ _⟩
  obtain ⟨i0, hi0⟩ : ∃ i : Nat, a = (i : Int) := ⟨a.toNat, by omega⟩
  subst hi0
  have hRv : R = if t.size ≤ i0 then .error 5 else if at_ t.data.toList i0 ≠ 34 then .error 6 else unq t.data.toList (i0 + 1) := by
    rw [← HR.out]
    unfold unquoteV
    rw [if_neg (by omega), hlen]
    rfl
  clear HR
  by_cases c3 : i0 < t.size
  · have p3 : ((i0 : Int) == (t.size : Int)) = false := by simp; omega
    have r3 : (i0 : Int) < (t.size : Int) := by omega
    have g3 := at_get c3
    rw [if_neg (by omega)] at hRv
    obtain ⟨C, hC⟩ : ∃ C, at_ t.data.toList i0 = C := ⟨_, rfl⟩
    rw [hC] at g3 hRv
    clear hC
    by_cases c4 : C = 34
    · have e4 : ((C : Int) != 34) = false := by simp [c4]
      rw [if_neg (by simp [c4])] at hRv
      have q1 : IntKind.i64.wrap ((i0 : Int) + 1) = ((i0 + 1 : Nat) : Int) := by rw [IntWalk.i64_in _ (by omega)]; omega
      obtain ⟨i1, hi1⟩ : ∃ x, i0 + 1 = x := ⟨_, rfl⟩
      rw [hi1] at q1 hRv
      have hi1s : i1 ≤ t.size := by omega
      have HRv := Lib.hid hRv
      clear hRv c4 hi1
      have KN := Lib.hid (fun (i : Nat) w => rnext_any t (i : Int) w (by omega))
      have KE := Lib.hid (fun a w ha => rescape_any t a w (by omega) ha)
      have KF := Lib.hid (fun n w hn => form_any n w hn)
      go_enter Tryd.func17, Tryd.ntmps17
      go_wp2_with fail
      go_loopw [7, 8] (fun s i wr => ∃ (k : Nat) (S : ByteArray) (acc : List UInt8), k ≤ t.size ∧ i = .int .i64 (k : Int) ∧ s = .string S ∧ S = ⟨acc.toArray⟩ ∧ acc.length ≤ 4 * k ∧ R = pre acc (unq t.data.toList k) ∧ Below w.heap.size w wr) (fun _ i _ => t.size - (RowKit.intOf i).toNat)
      case atStart => exact ⟨i1, _, [], hi1s, rfl, rfl, rfl, by simp, by rw [pre_nil]; exact HRv.out, Below.refl _ _⟩
      case round =>
        obtain ⟨k, S, acc, hk, rfl, rfl, hS, hfew, hU, hb⟩ := hrel
        have hSz : S.size = acc.length := by rw [hS, size_bytes]
        have hSs : (S.size : Int) ≤ 40000 := by omega
        by_cases hks : k < t.size
        · have pk : (k : Int) < (t.size : Int) := by omega
          have gk := at_get hks
          have hkl : k < t.data.toList.length := by omega
          obtain ⟨D, hD⟩ : ∃ D, at_ t.data.toList k = D := ⟨_, rfl⟩
          have hD2 : D < 256 := by rw [← hD]; exact at_lt _ _
          rw [hD] at gk
          have HU := Lib.hid hU
          have HB := Lib.hid hb
          have HS := Lib.hid hS
          clear hU hb hS hSz g3
          by_cases d34 : D = 34
          · have e34 : ((D : Int) != 34) = false := by simp [d34]
            have hun := unq_quote hkl (by rw [hD]; exact d34)
            have HN := Lib.hid hun
            have pk2 : ¬ (t.size : Int) ≤ (k : Int) := by omega
            have q9 : IntKind.i64.wrap ((k : Int) + 1) = ((k + 1 : Nat) : Int) := by rw [IntWalk.i64_in _ (by omega)]; omega
            clear hun d34 hD
            go_wp2_with fail
            go_ret3
            refine ⟨?_, HB.out⟩
            rw [HU.out, HN.out, HS.out]
            show _ = retU (acc ++ [], k + 1, 0)
            rw [List.append_nil]
            rfl
          · have e34 : ((D : Int) != 34) = true := by simp; omega
            by_cases d32 : 32 ≤ D
            · have p32 : ¬ (D : Int) < 32 := by omega
              have KNk := KN.out k
              rw [nextV_nat] at KNk
              by_cases d92 : D = 92
              · have e92 : ((D : Int) == 92) = true := by simp [d92]
                have hun := unq_esc hkl (by rw [hD]; exact d92)
                have hnx : nx (t.data.toList.drop k) = some (92, 1) := by have := nx_ascii hkl (by rw [hD]; omega); rw [hD, d92] at this; exact this
                rw [hnx] at KNk
                simp only [retR] at KNk
                have KN2 := Lib.hid KNk
                have q9 : IntKind.i64.wrap ((k : Int) + 1) = ((k + 1 : Nat) : Int) := by rw [IntWalk.i64_in _ (by omega)]; omega
                obtain ⟨k1, hk1⟩ : ∃ x, k + 1 = x := ⟨_, rfl⟩
                rw [hk1] at q9 hun
                have KE1 := KE.out k1
                obtain ⟨R2, hR2⟩ : ∃ R2, escV t.data.toList k1 = R2 := ⟨_, rfl⟩
                rw [hR2] at KE1 hun
                clear KNk hnx d92 hD d34 d32
                cases R2 with
                | error m =>
                  have hm : m ≠ 0 := fun h => esc_no0 (by rw [hR2, h])
                  have em : ((m : Int) != 0) = true := by simp; omega
                  have HN := Lib.hid hun
                  simp only [ans3, ret3] at KE1
                  have KE2 := Lib.hid (fun w => KE1 w (by omega))
                  have q10 : IntKind.i64.wrap ((0 : Int) + 1) = 1 := by decide
                  clear hun hR2 KE1
                  go_wp2_with fail
                  refine (KN2.out _).mono ?_
                  rintro e w1 ⟨rfl, hb1⟩
                  go_wp2_with fail
                  refine (KE2.out _).mono ?_
                  rintro e w2 ⟨rfl, rfl⟩
                  go_wp2_with fail
                  go_ret3
                  refine ⟨?_, HB.out.trans (hb1.mono HB.out.size)⟩
                  rw [HU.out, HN.out]
                  rfl
                | ok r =>
                  obtain ⟨n, a'⟩ := r
                  have hcp := esc_cp hR2
                  have hlt := esc_lt hR2
                  have hle := esc_le hR2
                  have HN := Lib.hid hun
                  simp only [ans3, ret3] at KE1
                  have KE2 := Lib.hid (fun w => KE1 w (by omega))
                  obtain ⟨y, hy⟩ : ∃ y, a' - k1 = y := ⟨_, rfl⟩
                  rw [hy] at KE2
                  have q10 : IntKind.i64.wrap ((y : Int) + 1) = ((y + 1 : Nat) : Int) := by rw [IntWalk.i64_in _ (by omega)]; omega
                  obtain ⟨z, hz⟩ : ∃ z, y + 1 = z := ⟨_, rfl⟩
                  rw [hz] at q10
                  have q11 : IntKind.i64.wrap ((k : Int) + (z : Int)) = ((k + z : Nat) : Int) := by rw [IntWalk.i64_in _ (by omega)]; omega
                  have ez : ((z : Int) == 0) = false := by simp; omega
                  have hfn := form_few n
                  have KF2 := Lib.hid (fun w => KF.out n w hcp)
                  obtain ⟨F, hF⟩ : ∃ F : ByteArray, F = ⟨(form n).toArray⟩ := ⟨_, rfl⟩
                  have hFz : F.size = (form n).length := by rw [hF, size_bytes]
                  have hFs : (F.size : Int) ≤ 4 := by omega
                  have hFv : strV (form n) = .string F := by rw [hF]; rfl
                  rw [hFv] at KF2
                  have HF := Lib.hid hF
                  have hcat : S ++ F = ⟨(acc ++ form n).toArray⟩ := by rw [HS.out, hF, cat_bytes]
                  have HC := Lib.hid hcat
                  clear hF hFv hcat
                  have hkz : k + z = a' := by omega
                  rw [hkz] at q11
                  clear hun hR2 KE1 hy hz hkz
                  go_wp2_with fail
                  refine (KN2.out _).mono ?_
                  rintro e w1 ⟨rfl, hb1⟩
                  go_wp2_with fail
                  refine (KE2.out _).mono ?_
                  rintro e w2 ⟨rfl, rfl⟩
                  go_wp2_with fail
                  refine (KF2.out _).mono ?_
                  rintro e w3 ⟨rfl, hb3⟩
                  have hb13 := (HB.out.trans (hb1.mono HB.out.size))
                  have hbb := hb13.trans (hb3.mono hb13.size)
                  have HBB := Lib.hid hbb
                  clear hb13 hbb hb1 hb3
                  go_wp2_with fail
                  go_roundw
                  case rel => exact ⟨a', _, acc ++ form n, by omega, rfl, rfl, HC.out, by rw [List.length_append]; omega, by rw [HU.out, HN.out]; exact pre_pre _ _ _, HBB.out⟩
                  case measure => simp [RowKit.intOf]; omega
              · have e92 : ((D : Int) == 92) = false := by simp; omega
                have hun := unq_cp hkl (by rw [hD]; exact d34) (by rw [hD]; exact d32) (by rw [hD]; exact d92)
                clear hD d34 d32 d92
                cases hx : nx (t.data.toList.drop k) with
                | none =>
                  rw [hx] at KNk hun
                  simp only [retR] at KNk
                  have KN2 := Lib.hid KNk
                  have HN := Lib.hid hun
                  clear KNk hun hx
                  go_wp2_with fail
                  refine (KN2.out _).mono ?_
                  rintro e w1 ⟨rfl, hb1⟩
                  go_wp2_with fail
                  go_ret3
                  refine ⟨?_, HB.out.trans (hb1.mono HB.out.size)⟩
                  rw [HU.out, HN.out]
                  rfl
                | some r =>
                  obtain ⟨n, z⟩ := r
                  rw [hx] at KNk hun
                  simp only [retR] at KNk
                  have KN2 := Lib.hid KNk
                  obtain ⟨hcp, hpre, hzf⟩ := nx_iff.1 hx
                  have htk : (t.data.toList.drop k).take z = form n := by rw [hzf]; exact (List.prefix_iff_eq_take.1 hpre).symm
                  simp only at hun
                  rw [htk] at hun
                  have HN := Lib.hid hun
                  have hz2 := (nx_lt hx)
                  have q11 : IntKind.i64.wrap ((k : Int) + (z : Int)) = ((k + z : Nat) : Int) := by rw [IntWalk.i64_in _ (by omega)]; omega
                  have ez : ((z : Int) == 0) = false := by simp; omega
                  have hfn := form_few n
                  have KF2 := Lib.hid (fun w => KF.out n w hcp)
                  obtain ⟨F, hF⟩ : ∃ F : ByteArray, F = ⟨(form n).toArray⟩ := ⟨_, rfl⟩
                  have hFz : F.size = (form n).length := by rw [hF, size_bytes]
                  have hFs : (F.size : Int) ≤ 4 := by omega
                  have hFv : strV (form n) = .string F := by rw [hF]; rfl
                  rw [hFv] at KF2
                  have HF := Lib.hid hF
                  have hcat : S ++ F = ⟨(acc ++ form n).toArray⟩ := by rw [HS.out, hF, cat_bytes]
                  have HC := Lib.hid hcat
                  clear hF hFv hcat
                  clear KNk hun hx htk hpre hzf
                  go_wp2_with fail
                  refine (KN2.out _).mono ?_
                  rintro e w1 ⟨rfl, hb1⟩
                  go_wp2_with fail
                  refine (KF2.out _).mono ?_
                  rintro e w3 ⟨rfl, hb3⟩
                  have hb13 := (HB.out.trans (hb1.mono HB.out.size))
                  have hbb := hb13.trans (hb3.mono hb13.size)
                  have HBB := Lib.hid hbb
                  clear hb13 hbb hb1 hb3
                  go_wp2_with fail
                  go_roundw
                  case rel => exact ⟨k + z, _, acc ++ form n, by omega, rfl, rfl, HC.out, by rw [List.length_append]; omega, by rw [HU.out, HN.out]; exact pre_pre _ _ _, HBB.out⟩
                  case measure => simp [RowKit.intOf]; omega
            · have p32 : (D : Int) < 32 := by omega
              have hun := unq_low hkl (by rw [hD]; omega)
              have HN := Lib.hid hun
              clear hun hD d34
              go_wp2_with fail
              go_ret3
              refine ⟨?_, HB.out⟩
              rw [HU.out, HN.out]
              rfl
        · obtain rfl : k = t.size := by omega
          have hun := unq_end (L := t.data.toList) (i := t.size) (by omega)
          have HU := Lib.hid (hU.trans (by rw [hun]))
          have pk : ¬ (t.size : Int) < (t.size : Int) := by omega
          have pk2 : (t.size : Int) ≤ (t.size : Int) := by omega
          clear hU hun
          go_wp2_with fail
          go_ret3
          refine ⟨?_, hb⟩
          rw [HU.out]
          rfl
    · have e4 : ((C : Int) != 34) = true := by simp; omega
      rw [if_pos c4] at hRv
      have HRv := Lib.hid hRv
      clear hRv c4
      go_enter Tryd.func17, Tryd.ntmps17
      go_wp2_with fail
      go_ret3
      rw [HRv.out]
      exact ⟨rfl, Below.refl _ _⟩
  · have p3 : ((i0 : Int) == (t.size : Int)) = true := by simp; omega
    rw [if_pos (by omega)] at hRv
    have HRv := Lib.hid hRv
    clear hRv
    go_enter Tryd.func17, Tryd.ntmps17
    go_wp2_with fail
    go_ret3
    rw [HRv.out]
    exact ⟨rfl, Below.refl _ _⟩
end Go.Proofs.YtndifilhfiooaaaDoor
namespace Go.Proofs.YtndifilhfiooaaaDoor
set_option maxRecDepth 20000
set_option linter.unusedSimpArgs false
set_option linter.unusedVariables false
/-- A text's byte at a place; 0 behind its end. -/
def gb (s : ByteArray) (i : Nat) : Nat := (s.data.toList.getD i 0).toNat
def isD (x : Nat) : Bool := decide (48 ≤ x) && decide (x ≤ 57)
/-- How many digits there are from a place on. -/
def cnt (s : ByteArray) (f : Nat) : Nat := ((s.data.toList.drop f).takeWhile fun c => isD c.toNat).length
/-- The number of some digits; and the one that grows no more once it is too great. -/
def valN (s : ByteArray) (f : Nat) : Nat → Nat
  | 0 => 0
  | k + 1 => 10 * valN s f k + (gb s (f + k) - 48)
def capN (s : ByteArray) (f : Nat) : Nat → Nat
  | 0 => 0
  | k + 1 => if capN s f k ≤ 9007199254740991 then 10 * capN s f k + (gb s (f + k) - 48) else capN s f k
theorem tw_lt (p : UInt8 → Bool) : ∀ (l : List UInt8) (k : Nat), k < (l.takeWhile p).length → p (l.getD k 0) = true ∧ k < l.length
  | [], k, h => by simp at h
  | c :: r, k, h => by
    cases hc : p c
    · rw [List.takeWhile_cons, hc] at h; simp at h
    · rw [List.takeWhile_cons, hc] at h
      match k with
      | 0 => exact ⟨by simpa using hc, by simp⟩
      | k + 1 =>
        have := tw_lt p r k (by simpa using h)
        exact ⟨by simpa using this.1, by simp; exact this.2⟩
theorem tw_stop (p : UInt8 → Bool) (h0 : p 0 = false) : ∀ (l : List UInt8), p (l.getD (l.takeWhile p).length 0) = false
  | [] => by simpa using h0
  | c :: r => by
    cases hc : p c
    · rw [List.takeWhile_cons, hc]; simpa using hc
    · rw [List.takeWhile_cons, hc]
      have := tw_stop p h0 r
      simpa using this
theorem gb_drop (s : ByteArray) (f k : Nat) : ((s.data.toList.drop f).getD k 0).toNat = gb s (f + k) := by
  unfold gb
  simp [List.getD_eq_getElem?_getD, List.getElem?_drop]
theorem cnt_lt (s : ByteArray) (f k : Nat) (h : k < cnt s f) : isD (gb s (f + k)) = true ∧ f + k < s.size := by
  have := tw_lt (fun c => isD c.toNat) _ k h
  rw [gb_drop] at this
  refine ⟨this.1, ?_⟩
  have h2 := this.2
  rw [List.length_drop] at h2
  have : s.data.toList.length = s.size := Array.length_toList
  omega
theorem cnt_stop (s : ByteArray) (f : Nat) : isD (gb s (f + cnt s f)) = false := by
  have := tw_stop (fun c => isD c.toNat) (by decide) (s.data.toList.drop f)
  rw [gb_drop] at this
  exact this
theorem cnt_le (s : ByteArray) (f : Nat) (h : f ≤ s.size) : f + cnt s f ≤ s.size := by
  rcases Nat.lt_or_ge 0 (cnt s f) with h1 | h1
  · have := (cnt_lt s f (cnt s f - 1) (by omega)).2
    omega
  · omega
theorem gb_at (s : ByteArray) (i : Nat) (h : i < s.size) : (s[i]'h).toNat = gb s i := by
  have hl : i < s.data.toList.length := by rw [Array.length_toList]; exact h
  unfold gb
  rw [List.getD_eq_getElem?_getD, List.getElem?_eq_getElem hl]
  rfl
theorem gb_out (s : ByteArray) (i : Nat) (h : s.size ≤ i) : gb s i = 0 := by
  have hl : s.data.toList.length ≤ i := by rw [Array.length_toList]; exact h
  unfold gb
  rw [List.getD_eq_getElem?_getD, List.getElem?_eq_none hl]
  rfl
theorem gb_lt (s : ByteArray) (i : Nat) : gb s i < 256 := UInt8.toNat_lt _
theorem cap_val (s : ByteArray) (f : Nat) : ∀ k, (capN s f k ≤ 9007199254740991 → capN s f k = valN s f k) ∧ (9007199254740991 < capN s f k → 9007199254740991 < valN s f k)
  | 0 => by simp [capN, valN]
  | k + 1 => by
    obtain ⟨h1, h2⟩ := cap_val s f k
    simp only [capN, valN]
    by_cases h : capN s f k ≤ 9007199254740991
    · rw [if_pos h, h1 h]; exact ⟨fun _ => rfl, fun h => h⟩
    · rw [if_neg h]; have := h2 (by omega); exact ⟨fun h' => absurd h' h, fun _ => by omega⟩
theorem cap_lt (s : ByteArray) (f : Nat) : ∀ k, capN s f k ≤ 90071992547410117
  | 0 => by simp [capN]
  | k + 1 => by
    have h := cap_lt s f k
    have := gb_lt s (f + k)
    simp only [capN]
    split <;> omega
theorem val_lt (s : ByteArray) (f : Nat) : ∀ k, valN s f k + 23 ≤ 23 * 10 ^ k
  | 0 => by simp [valN]
  | k + 1 => by
    have h := val_lt s f k
    have := gb_lt s (f + k)
    simp only [valN, Nat.pow_succ]
    omega
theorem val_16 (s : ByteArray) (f k : Nat) (h : k ≤ 16) : valN s f k ≤ 230000000000000000 := by
  have h1 := val_lt s f k
  have h2 : 10 ^ k ≤ 10 ^ 16 := Nat.pow_le_pow_right (by decide) h
  omega
theorem val_ge (s : ByteArray) (f : Nat) (h : 49 ≤ gb s f) : ∀ k, 10 ^ k ≤ valN s f (k + 1)
  | 0 => by simp [valN]; omega
  | k + 1 => by
    have h := val_ge s f h k
    rw [valN, Nat.pow_succ]
    omega
theorem val_big (s : ByteArray) (f m : Nat) (h : 49 ≤ gb s f) (hm : 16 < m) : 9007199254740991 < valN s f m := by
  obtain ⟨k, rfl⟩ : ∃ k, m = k + 1 := ⟨m - 1, by omega⟩
  have h1 := val_ge s f h k
  have h2 : 10 ^ 16 ≤ 10 ^ k := Nat.pow_le_pow_right (by decide) (by omega)
  omega
def isE (x : Nat) : Bool := x == 46 || x == 101 || x == 69
/-- What stands from a place on, where a sign stands ('sg' 1) or none. -/
def scanF (s : ByteArray) (f sg : Nat) : Int × Int × Int :=
  if f = s.size then (0, 0, 5)
  else if cnt s f = 0 then (0, 0, 6)
  else if isE (gb s (f + cnt s f)) = true then (0, 0, 12)
  else if gb s f = 48 ∧ (1 < cnt s f ∨ sg = 1) then (0, 0, 12)
  else if 9007199254740991 < valN s f (cnt s f) then (0, 0, 2)
  else (if sg = 1 then -(valN s f (cnt s f) : Int) else valN s f (cnt s f), ((f + cnt s f : Nat) : Int), 0)
/-- What Scan answers. -/
def scanI (s : ByteArray) (p : Int) : Int × Int × Int :=
  if p < 0 ∨ (s.size : Int) < p then (0, 0, 1)
  else if gb s p.toNat = 45 then scanF s (p.toNat + 1) 1
  else scanF s p.toNat 0
def retI (r : Int × Int × Int) : Ending := .returned (.tuple #[.int .i64 r.1, .int .i64 r.2.1, .int .i64 r.2.2])
theorem scanF_5 {s : ByteArray} {f sg : Nat} (h : f = s.size) : scanF s f sg = (0, 0, 5) := by rw [scanF, if_pos h]
theorem scanF_6 {s : ByteArray} {f sg : Nat} (h : f < s.size) (h1 : isD (gb s f) = false) : scanF s f sg = (0, 0, 6) := by
  have : cnt s f = 0 := by
    rcases Nat.lt_or_ge 0 (cnt s f) with h2 | h2
    · have := (cnt_lt s f 0 h2).1; rw [Nat.add_zero, h1] at this; exact absurd this (by decide)
    · omega
  rw [scanF, if_neg (by omega), if_pos this]
theorem scanF_pos {s : ByteArray} {f : Nat} (h1 : isD (gb s f) = true) : 0 < cnt s f := by
  apply Nat.lt_of_not_le
  intro h
  have := cnt_stop s f
  rw [show f + cnt s f = f from by omega, h1] at this
  exact absurd this (by decide)
theorem scanF_e {s : ByteArray} {f sg : Nat} (h : f < s.size) (h1 : 0 < cnt s f) (he : isE (gb s (f + cnt s f)) = true) : scanF s f sg = (0, 0, 12) := by
  rw [scanF, if_neg (by omega), if_neg (by omega), if_pos he]
theorem scanF_0 {s : ByteArray} {f sg : Nat} (h : f < s.size) (h1 : 0 < cnt s f) (h0 : gb s f = 48) (h2 : 1 < cnt s f ∨ sg = 1) : scanF s f sg = (0, 0, 12) := by
  rw [scanF, if_neg (by omega), if_neg (by omega)]
  split
  · rfl
  · rw [if_pos ⟨h0, h2⟩]
theorem scanF_2 {s : ByteArray} {f sg : Nat} (h : f < s.size) (h1 : 0 < cnt s f) (he : isE (gb s (f + cnt s f)) = false) (h0 : ¬ (gb s f = 48 ∧ (1 < cnt s f ∨ sg = 1))) (hb : 9007199254740991 < valN s f (cnt s f)) : scanF s f sg = (0, 0, 2) := by
  rw [scanF, if_neg (by omega), if_neg (by omega), if_neg (by rw [he]; decide), if_neg h0, if_pos hb]
theorem scanF_n {s : ByteArray} {f sg : Nat} (h : f < s.size) (h1 : 0 < cnt s f) (he : isE (gb s (f + cnt s f)) = false) (h0 : ¬ (gb s f = 48 ∧ (1 < cnt s f ∨ sg = 1))) (hb : valN s f (cnt s f) ≤ 9007199254740991) : scanF s f sg = (if sg = 1 then -(valN s f (cnt s f) : Int) else valN s f (cnt s f), ((f + cnt s f : Nat) : Int), 0) := by
  rw [scanF, if_neg (by omega), if_neg (by omega), if_neg (by rw [he]; decide), if_neg h0, if_neg (by omega)]
theorem cnt_same {s : ByteArray} {f k : Nat} (h : k ≤ cnt s f) (h1 : isD (gb s (f + k)) = false) : k = cnt s f := by
  rcases Nat.lt_or_ge k (cnt s f) with h2 | h2
  · have := (cnt_lt s f k h2).1; rw [h1] at this; exact absurd this (by decide)
  · omega
theorem cnt_more {s : ByteArray} {f k : Nat} (h : k ≤ cnt s f) (h1 : isD (gb s (f + k)) = true) : k + 1 ≤ cnt s f := by
  rcases Nat.lt_or_ge k (cnt s f) with h2 | h2
  · exact h2
  · have := cnt_stop s f; rw [show cnt s f = k from by omega, h1] at this; exact absurd this (by decide)
theorem isD_yes {x : Nat} (h : isD x = true) : 48 ≤ x ∧ x ≤ 57 := by simpa [isD] using h
theorem isD_no {x : Nat} (h : isD x = false) : x < 48 ∨ 57 < x := by
  simp [isD] at h; omega
theorem isE_notD {x : Nat} (h : isE x = true) : isD x = false := by
  simp [isE] at h
  rcases h with (rfl | rfl) | rfl <;> rfl
end Go.Proofs.YtndifilhfiooaaaDoor
