/- esc (layer 4): text. -/
import Derived.Test.YtcadklhjhjbhaaaDoorEscE
import Derived.Lib.AppendIntMem
namespace Go.Proofs.YtcadklhjhjbhaaaDoor
set_option maxRecDepth 20000
set_option linter.unusedSimpArgs false
set_option linter.unusedVariables false
open Go.RowKit Go.Lib Go.Shelf
attribute [local go_sem] Oper.semAt_some
theorem bw_any (B b : Nat) (acc P : List UInt8) (w : World) (h : IsB B b (byteCells acc) w) (hlen : acc.length + P.length ≤ 1000000) (hBw : B ≤ w.heap.size) :
    Calls Tryd.prog 25 #[.pointer (some ⟨b, 0, none⟩), .string ⟨P.toArray⟩] w fun e w' => e = .returned (.tuple #[.int .i64 (P.length : Int), .nilIface]) ∧ IsB B b (byteCells (acc ++ P)) w' ∧ Below B w w' ∧ Lib.OthersKept ByTy (some b) w w' := by
  have hz : (⟨P.toArray⟩ : ByteArray).size = P.length := by rw [Lib.size_eq]
  refine (bwrites_any B b _ ⟨P.toArray⟩ w h (by rw [byteCells_length, hz]; omega) hBw).mono fun e w' ⟨he, hb, h2⟩ => ⟨by rw [he, hz], ?_, h2⟩
  rw [byteCells_append]
  exact .inr hb
theorem put1_any (n g : Nat) (hn : isCp n) (w : World) (hc : w.cell? ⟨g, 0, none⟩ = some (i32 (n : Int))) :
    Calls Tryd.prog 51 #[.slice (some ⟨g, 0, none⟩) 1 1] w fun e w' => e = .returned (.tuple #[.string ⟨(form n).toArray⟩, .int .i64 0]) ∧ Below w.heap.size w w' := by
  have z0 : ∀ i, i < 1 → i = 0 := fun i hi => by omega
  have hok : okP [(n : Int)] 1 := fun i hi => by rw [z0 i hi]; exact valid_of_cp hn
  have hn2 := hn.1
  refine (put_any g 0 1 1 [(n : Int)] w (by omega) (fun _ => blk_of_cell hc) (fun i hi => by rw [z0 i hi]; exact hc) (fun i hi => by rw [z0 i hi]; show _ ≤ (n : Int) ∧ (n : Int) ≤ _; omega) _ (fun _ => rfl)).mono fun e w' ⟨he, hb⟩ => ⟨?_, hb⟩
  rcases he with ⟨-, he⟩ | ⟨hno, -⟩
  · rw [he]
    unfold retP formsB formsB form
    simp
  · exact absurd hok hno
theorem form_few (n : Nat) : (form n).length ≤ 4 := rune_few _
/-- How text ends. -/
def OutT (t : ByteArray) (a b : Nat) (e : Ending) (w' : World) : Prop :=
  (∃ s i sh, e = .returned (.string ⟨s.toArray⟩) ∧ w'.heap[b]? = some (rdB t i sh) ∧ i ≤ t.size ∧ unq t.data.toList a = .ok (s, i)) ∨ ∃ m : Nat, e = .panicked (pch (m : Int)) ∧ unq t.data.toList a = .error m
theorem mean_other {m bld B : Nat} {bs : List Value} {w : World} (hm : MeanAt m w) (hB : IsB B bld bs w) : m ≠ bld := by
  rintro rfl
  obtain ⟨es, ck, h, -⟩ := hm
  rcases hB with ⟨-, v, h2, -⟩ | ⟨-, v, h2, -⟩ <;> (rw [h] at h2; cases h2)
theorem ShOk.others {b bld B : Nat} {sh : Value} {bs : List Value} {w w' : World} (h : ShOk b sh w) (hB : IsB B bld bs w) (hs : w.heap.size ≤ w'.heap.size) (ho : Lib.OthersKept ByTy (some bld) w w') : ShOk b sh w' := by
  rcases h with h | ⟨m, h1, h2, h3, h4⟩
  · exact .inl h
  · refine .inr ⟨m, h1, h2.keep ?_, h3, Nat.lt_of_lt_of_le h4 hs⟩
    obtain ⟨es, ck, hm, -⟩ := id h2
    rw [hm]
    exact ho m _ hm (fun e => mean_other h2 hB (Option.some.inj e)) (fun c fz e => by cases e)
/-- What text carries from round to round. -/
structure TxI (t : ByteArray) (a b bld : Nat) (w : World) (i : Nat) (acc : List UInt8) (sh : Value) (wr : World) : Prop where
  le : i ≤ t.size
  rd : wr.heap[b]? = some (rdB t i sh)
  ok : ShOk b sh wr
  oth : Oth b w wr
  bl : IsB w.heap.size bld (byteCells acc) wr
  eq : unq t.data.toList a = pre acc (unq t.data.toList i)
  few : acc.length ≤ 4 * i
/-- A piece is written. -/
theorem TxI.write {t : ByteArray} {a b bld i : Nat} {w wr w' : World} {acc P : List UInt8} {sh : Value} (h : TxI t a b bld w i acc sh wr) (hb : b < w.heap.size) (hB : IsB w.heap.size bld (byteCells (acc ++ P)) w') (hl : Below w.heap.size wr w') (ho : Lib.OthersKept ByTy (some bld) wr w') :
    w'.heap[b]? = some (rdB t i sh) ∧ ShOk b sh w' ∧ Oth b w w' := by
  refine ⟨(hl.block b hb).trans h.rd, h.ok.others h.bl hl.size ho, ?_⟩
  exact ⟨hl.os.trans h.oth.os, hl.tape.trans h.oth.tape, hl.output.trans h.oth.output, Nat.le_trans h.oth.size hl.size, fun k hk hne => (hl.block k hk).trans (h.oth.block k hk hne)⟩
theorem IsB.oth {B b bld : Nat} {bs : List Value} {w w' : World} (h : IsB B bld bs w) (hb : b < B) (ho : Oth b w w') : IsB B bld bs w' :=
  h.keep fun k hk hl => ho.block k hl (by omega)
set_option maxRecDepth 100000 in
set_option maxHeartbeats 4000000 in
theorem text_any (t : ByteArray) (a b : Nat) (w : World) (hb : w.heap[b]? = some (rdB t a (.map none))) (ht : t.size ≤ 100000) (ha : a ≤ t.size) (hT : TabsO b w) :
    Calls Tryd.prog 33 #[.pointer (some ⟨b, 0, none⟩)] w fun e w' => Oth b w w' ∧ OutT t a b e w' := by
  have hbl : b < w.heap.size := (Array.getElem?_eq_some_iff.1 hb).1
  have KP := Lib.hid (fun i sh w hb hi hT => plain_any t i b sh w hb ht hi hT)
  have KW := Lib.hid (fun bld acc P W h hl hs => bw_any w.heap.size bld acc P W h hl hs)
  have KS := Lib.hid (fun bld l W h hs => Tryd.Builder_String_any_k w.heap.size bld l W h hs)
  have KE := Lib.hid (fun i sh w hb hs => escape_any t i b sh w hb ht hs)
  have KPut := Lib.hid (fun n g hn w hc => put1_any n g hn w hc)
  go_enter Tryd.func33, Tryd.ntmps33
  obtain ⟨bld, hbld⟩ : ∃ x, w.heap.size = x := ⟨_, rfl⟩
  have hnew : (w.alloc (.cells #[.pointer none, .slice none 0 0] BTy)).heap[bld]? = some (.cells #[.pointer none, .slice none 0 0] BTy (0, 0)) := by rw [← hbld]; exact World.alloc_heap_new w _
  have hO0 : Oth b w (w.alloc (.cells #[.pointer none, .slice none 0 0] BTy)) := Oth.below ((Below.refl _ w).alloc (Nat.le_refl _) _)
  have hb0 : (w.alloc (.cells #[.pointer none, .slice none 0 0] BTy)).heap[b]? = some (rdB t a (.map none)) := (Below.heap_alloc w _ b hbl).trans hb
  have hI0 : TxI t a b bld w a [] (.map none) (w.alloc (.cells #[.pointer none, .slice none 0 0] BTy)) :=
    ⟨ha, hb0, .inl rfl, hO0, .inl ⟨by omega, _, hnew, World.ownsRowF_nil _ _ _ _, by simp [Value.ownBlock]⟩, by rw [pre_nil], by simp⟩
  have HI0 := Lib.hid hI0
  clear hnew hO0 hb0 hI0
  go_wp2_with fail

  go_loopw [] (fun wr => ∃ i acc sh, TxI t a b bld w i acc sh wr) (fun wr => match wr.cell? ⟨b, 1, none⟩ with | some v => t.size - (RowKit.intOf v).toNat | none => 0)
  case atStart => exact ⟨a, [], _, HI0.out⟩
  case round =>
    obtain ⟨i, acc, sh, hI⟩ := hrel
    have hsz := hI.oth.size
    go_wp2_with fail
    refine (KP.out i sh wr hI.rd hI.le (hT.keep hI.oth)).mono ?_
    rintro e w1 ⟨ho1, ⟨j, hij, hj, hC, rfl, hb1, hU⟩ | ⟨m, rfl, hU⟩⟩
    · have hsg : (seg t.data.toList i j).length = j - i := by
        unfold seg
        rw [List.length_take, List.length_drop, len_of]
        omega
      obtain ⟨P, hP⟩ : ∃ P, seg t.data.toList i j = P := ⟨_, rfl⟩
      rw [hP] at hsg hU ⊢
      have hfew := hI.few
      have hI1 : TxI t a b bld w j acc sh w1 → True := fun _ => trivial
      have hB1 : IsB w.heap.size bld (byteCells acc) w1 := hI.bl.oth hbl ho1
      have hok1 : ShOk b sh w1 := hI.ok.keep ho1
      have hoo1 := hI.oth.trans ho1
      have HI := Lib.hid hI
      clear hI hI1
      go_wp2_with fail
      refine (KW.out bld acc P w1 hB1 (by omega) hoo1.size).mono ?_
      rintro e w2 ⟨rfl, hB2, hbw2, hot2⟩
      have hb2 : w2.heap[b]? = some (rdB t j sh) := (hbw2.block b hbl).trans hb1
      have hok2 := hok1.others hB1 hbw2.size hot2
      have hoo2 : Oth b w w2 := ⟨hbw2.os.trans hoo1.os, hbw2.tape.trans hoo1.tape, hbw2.output.trans hoo1.output, Nat.le_trans hoo1.size hbw2.size, fun k hk hne => (hbw2.block k hk).trans (hoo1.block k hk hne)⟩
      have KT := take_yes t j b sh w2 hb2 ht hj
      rw [at_get hj] at KT
      obtain ⟨C, hCC⟩ : ∃ C, at_ t.data.toList j = C := ⟨_, rfl⟩
      rw [hCC] at KT hC
      have KT2 := Lib.hid KT
      clear KT hB1 hok1 hoo1 hot2 hbw2 hb1 ho1
      rcases hC with rfl | rfl
      · go_wp2_with fail
        refine KT2.out.mono ?_
        rintro e w3 ⟨rfl, hb3, ho3⟩
        have hB3 := hB2.oth hbl ho3
        have hoo3 := hoo2.trans ho3
        go_wp2_with fail
        refine (KS.out bld (acc ++ P) w3 hB3 hoo3.size).mono ?_
        rintro e w4 ⟨rfl, -, hbw4, -⟩
        have hoo4 : Oth b w w4 := ⟨hbw4.os.trans hoo3.os, hbw4.tape.trans hoo3.tape, hbw4.output.trans hoo3.output, Nat.le_trans hoo3.size hbw4.size, fun k hk hne => (hbw4.block k hk).trans (hoo3.block k hk hne)⟩
        have hb4 := (hbw4.block b hbl).trans hb3
        go_wp2_with fail
        go_ret
        refine ⟨hoo4, .inl ⟨acc ++ P, j + 1, sh, rfl, hb4, hj, ?_⟩⟩
        rw [HI.out.eq, hU, pre_pre, unq_quote (by rw [len_of]; exact hj) hCC]
        simp [pre]
      · have hesc := unq_esc (L := t.data.toList) (i := j) (by rw [len_of]; exact hj) hCC
        go_wp2_with fail
        refine KT2.out.mono ?_
        rintro e w3 ⟨rfl, hb3, ho3⟩
        have hB3 := hB2.oth hbl ho3
        have hoo3 := hoo2.trans ho3
        have hok3 := hok2.keep ho3
        go_wp2_with fail
        refine (KE.out (j + 1) sh w3 hb3 hok3).mono ?_
        rintro e w4 ⟨ho4, hr4⟩
        have hoo4 := hoo3.trans ho4
        have hB4 := hB3.oth hbl ho4
        cases hv : escV t.data.toList (j + 1) with
        | error m =>
          rw [hv] at hr4 hesc
          obtain rfl : e = .panicked (pch (m : Int)) := hr4
          go_wp2_with fail
          exact ⟨rfl, hoo4, .inr ⟨m, rfl, by rw [HI.out.eq, hU, hesc]; rfl⟩⟩
        | ok r =>
          obtain ⟨n, k⟩ := r
          rw [hv] at hr4 hesc
          obtain ⟨rfl, ⟨sh', hb4, hok4⟩, hcp, hk⟩ := hr4
          simp only at hesc hok4
          have hjk := esc_lt hv
          have hfn := form_few n
          have hcell : (w4.alloc (.cells #[i32 (n : Int)] 21)).cell? ⟨w4.heap.size, 0, none⟩ = some (i32 (n : Int)) := (cell_new_l w4 _ _).1
          have KPn := Lib.hid (KPut.out n w4.heap.size hcp _ hcell)
          have hB5 : IsB w.heap.size bld (byteCells (acc ++ P)) (w4.alloc (.cells #[i32 (n : Int)] 21)) := hB4.keep fun k hk hl => Below.heap_alloc w4 _ k hl
          have ho5 : Oth b w4 (w4.alloc (.cells #[i32 (n : Int)] 21)) := Oth.below ((Below.refl _ w4).alloc (Nat.le_refl _) _)
          have hb5 := (Below.heap_alloc w4 (.cells #[i32 (n : Int)] 21) b (Nat.lt_of_lt_of_le hbl hoo4.size)).trans hb4
          have hok5 := hok4.keep ho5
          have H5 := Lib.hid (And.intro hB5 (And.intro hb5 (And.intro hok5 (hoo4.trans ho5))))
          clear hcell hB5 ho5 hb5 hok5
          go_wp2_with fail
          refine KPn.out.mono ?_
          rintro e w6 ⟨rfl, hbw6⟩
          obtain ⟨hB5, hb5, hok5, hoo5⟩ := H5.out
          have hB6 : IsB w.heap.size bld (byteCells (acc ++ P)) w6 := hB5.keep fun k hk hl => hbw6.block k hl
          have ho6 : Oth b _ w6 := Oth.below hbw6
          have hb6 := (hbw6.block b (Nat.lt_of_lt_of_le hbl hoo5.size)).trans hb5
          have hok6 := hok5.keep ho6
          have hoo6 := hoo5.trans ho6
          have hI6 : TxI t a b bld w k (acc ++ P) sh' w6 → True := fun _ => trivial
          clear hB5 hb5 hok5 hoo5 ho6 hbw6 H5 KPn hI6
          go_wp2_with fail
          refine (KW.out bld (acc ++ P) (form n) w6 hB6 (by rw [List.length_append]; omega) hoo6.size).mono ?_
          rintro e w7 ⟨rfl, hB7, hbw7, hot7⟩
          have hb7 : w7.heap[b]? = some (rdB t k sh') := (hbw7.block b hbl).trans hb6
          have hok7 := hok6.others hB6 hbw7.size hot7
          have hoo7 : Oth b w w7 := ⟨hbw7.os.trans hoo6.os, hbw7.tape.trans hoo6.tape, hbw7.output.trans hoo6.output, Nat.le_trans hoo6.size hbw7.size, fun k hk hne => (hbw7.block k hk).trans (hoo6.block k hk hne)⟩
          have hm1 := (rd_cells HI.out.rd).2.1
          have hm2 := (rd_cells hb7).2.1
          have hI7 : TxI t a b bld w k (acc ++ P ++ form n) sh' w7 := ⟨hk, hb7, hok7, hoo7, hB7, by rw [HI.out.eq, hU, hesc, pre_pre, pre_pre], by rw [List.length_append, List.length_append]; omega⟩
          have H7 := Lib.hid (And.intro hI7 (And.intro hm1 hm2))
          clear hI7 hm1 hm2 hB7 hb7 hok7 hoo7 hot7 hbw7
          go_wp2_with fail
          go_roundw
          case rel => exact ⟨_, _, _, H7.out.1⟩
          case measure =>
            rw [H7.out.2.1, H7.out.2.2]
            simp only [RowKit.intOf]
            omega
    · go_wp2_with fail
      exact ⟨rfl, hI.oth.trans ho1, .inr ⟨m, rfl, by rw [hI.eq, hU]; rfl⟩⟩
end Go.Proofs.YtcadklhjhjbhaaaDoor
