/- esc (layer 4): Quote and Size. -/
import Derived.Test.YtcadklhjhjbhaaaDoorEscM
import Derived.Test.YtcadklhjhjbhaaaDoorEscF
namespace Go.Proofs.YtcadklhjhjbhaaaDoor
set_option maxRecDepth 20000
set_option linter.unusedSimpArgs false
set_option linter.unusedVariables false
open Go.RowKit Go.Lib Go.Shelf
attribute [local go_sem] Oper.semAt_some
theorem quote1_any (B b : Nat) (acc P : List UInt8) (w : World) (h : IsB B b (byteCells acc) w) (hl : acc.length + P.length ≤ 100000) (hB : B ≤ w.heap.size) :
    Calls Tryd.prog 24 (#[.string ⟨P.toArray⟩] ++ #[.pointer (some ⟨b, 0, none⟩)]) w fun e w' => e = .returned (.tuple #[]) ∧ IsB B b (byteCells (acc ++ P)) w' ∧ Frm B b w w' := by
  have KW := Lib.hid (bw_any B b acc P w h (by omega) hB)
  go_enter Tryd.func24, Tryd.ntmps24
  go_wp2_with fail
  refine KW.out.mono ?_
  rintro e w1 ⟨rfl, h1, h2, h3⟩
  go_wp2_with fail
  go_end0
  exact ⟨rfl, h1, h2, fun k o ho hk hf => h3 k o ho (fun e => hk (Option.some.inj e)) hf⟩
theorem isB_keep {B b : Nat} {acc : List UInt8} {W W' : World} (h : IsB B b (byteCells acc) W) (hk : ∀ k o, W.heap[k]? = some o → o.isCells = true → (k = b ∨ ∃ cs fz, o = .cells cs ByTy fz) → W'.heap[k]? = some o) : IsB B b (byteCells acc) W' := by
  have one : ∀ p, Lib.BuilderAtF BTy ByTy B b p (byteCells acc) W → Lib.BuilderAtF BTy ByTy B b p (byteCells acc) W' := by
    rintro p ⟨hB, v, hbk, hown, hne⟩
    refine ⟨hB, v, hk b _ hbk rfl (.inl rfl), ⟨hown.1, ?_⟩, hne⟩
    rcases hown.2 with hn | ⟨g, cap, cur, fz, rfl, hb, hg, rest⟩
    · exact .inl hn
    · exact .inr ⟨g, cap, cur, fz, rfl, hb, hk g _ hg rfl (.inr ⟨_, _, rfl⟩), rest⟩
  exact h.imp (one _) (one _)
theorem isB_cells {B b : Nat} {bs : List Value} {W : World} (h : IsB B b bs W) : ∃ o, W.heap[b]? = some o ∧ o.isCells = true := by
  rcases h with ⟨-, v, h, -⟩ | ⟨-, v, h, -⟩ <;> exact ⟨_, h, rfl⟩
theorem quote1_ok (B : Nat) : PutOK 24 #[.pointer (some ⟨B, 0, none⟩)] B B (fun acc W => IsB B B (byteCells acc) W) where
  ent := enters_of Tryd.func24 (by kernel_rfl) rfl
  cells := fun _ _ h => isB_cells h
  low := Nat.le_refl _
  call := fun acc P W h hl hB => quote1_any B B acc P W h hl hB
  keep := fun _ _ _ h hk => isB_keep h hk
theorem size1_any (b : Nat) (acc P : List UInt8) (w : World) (h : Boxed w b 3 (.int .i64 (acc.length : Int))) (hl : acc.length + P.length ≤ 100000) :
    Calls Tryd.prog 29 (#[.string ⟨P.toArray⟩] ++ #[.pointer (some ⟨b, 0, none⟩)]) w fun e w' => e = .returned (.tuple #[]) ∧ Boxed w' b 3 (.int .i64 ((acc ++ P).length : Int)) ∧ Frm b b w w' := by
  have hc := h.cell
  have hf := h.frozen
  have q : wrap64 ((acc.length : Int) + (P.length : Int)) = (acc.length : Int) + (P.length : Int) := IntWalk.wrap64_in _ ⟨by omega, by omega⟩
  go_enter Tryd.func29, Tryd.ntmps29
  go_wp2_with fail
  go_end0
  refine ⟨rfl, ?_, (Below.refl _ w).setCell (p := ⟨b, 0, none⟩) (Nat.le_refl b) _, fun k o ho hk _ => (Below.heap_setCell w ⟨b, 0, none⟩ _ _ hk).trans ho⟩
  rw [List.length_append]
  exact h.set _
theorem size1_ok (B : Nat) : PutOK 29 #[.pointer (some ⟨B, 0, none⟩)] B B (fun acc W => Boxed W B 3 (.int .i64 (acc.length : Int))) where
  ent := enters_of Tryd.func29 (by kernel_rfl) rfl
  cells := fun _ _ h => ⟨_, h, rfl⟩
  low := Nat.le_refl _
  call := fun acc P W h hl _ => size1_any B acc P W h hl
  keep := fun _ _ _ h hk => hk B _ h rfl (.inl rfl)
def quoteR (L : List UInt8) : Value := if validB L = true then .tuple #[.string ⟨(quoteL L).toArray⟩, .int .i64 0] else .tuple #[.string ⟨#[]⟩, .int .i64 10]
theorem quote_any (s : ByteArray) (hs : s.size ≤ 1000) (w : World) (hT : Tabs w) :
    Calls Tryd.prog 10 #[.string s] w fun e w' => e = .returned (quoteR s.data.toList) ∧ Below w.heap.size w w' := by
  have KV := Lib.hid (fun w hT => valid_any s (by omega) w hT)
  have hw2 := tabs_size hT
  obtain ⟨vb, hvb⟩ : ∃ vb, validB s.data.toList = vb := ⟨_, rfl⟩
  have HV := Lib.hid hvb
  rw [hvb] at KV
  clear hvb
  go_enter Tryd.func10, Tryd.ntmps10
  go_wp2_with fail
  refine (KV.out w hT).mono ?_
  rintro e w1 ⟨rfl, hb1⟩
  have hT1 := tabs_low hw2 hT hb1
  cases vb
  · go_wp2_with fail
    go_ret2
    exact ⟨by unfold quoteR; rw [HV.out]; rfl, hb1⟩
  · obtain ⟨b, hb⟩ : ∃ b, w1.heap.size = b := ⟨_, rfl⟩
    have hnew : (w1.alloc (.cells #[.pointer none, .slice none 0 0] BTy)).heap[b]? = some (.cells #[.pointer none, .slice none 0 0] BTy (0, 0)) := by rw [← hb]; exact World.alloc_heap_new w1 _
    have hbW : Below w1.heap.size w1 (w1.alloc (.cells #[.pointer none, .slice none 0 0] BTy)) := (Below.refl _ w1).alloc (Nat.le_refl _) _
    have hw1 := tabs_size hT1
    have KP := Lib.hid (pieces_any _ _ b b _ (quote1_ok b) s hs (w1.alloc (.cells #[.pointer none, .slice none 0 0] BTy)) (.inl ⟨Nat.le_refl _, _, hnew, World.ownsRowF_nil _ _ _ _, by simp [Value.ownBlock]⟩) HV.out ⟨by omega, by omega⟩ (tabs_low hw1 hT1 hbW))
    have KS := Lib.hid (fun l W h hs => Tryd.Builder_String_any_k b b l W h hs)
    have hbl := hb1.size
    have HB0 := Lib.hid (hb1.trans (hbW.mono hbl))
    clear hnew hbW hw1
    go_wp2_with fail
    refine KP.out.mono ?_
    rintro e w2 ⟨rfl, h2, hb2⟩
    go_wp2_with fail
    have hz2 := hb2.size
    have hz1 : b ≤ (w1.alloc (.cells #[.pointer none, .slice none 0 0] BTy)).heap.size := by simp; omega
    refine (KS.out (quoteL s.data.toList) w2 h2 (by omega)).mono ?_
    rintro e w3 ⟨rfl, -, hb3, -⟩
    go_wp2_with fail
    go_ret2
    exact ⟨by unfold quoteR; rw [HV.out]; rfl, (HB0.out.trans (hb2.mono (by omega))).trans (hb3.mono (by omega))⟩
def sizeR (L : List UInt8) : Nat := if validB L = true then (quoteL L).length else 0
theorem size_any (s : ByteArray) (hs : s.size ≤ 1000) (w : World) (hT : Tabs w) :
    Calls Tryd.prog 12 #[.string s] w fun e w' => e = .returned (.int .i64 ((sizeR s.data.toList : Nat) : Int)) ∧ Below w.heap.size w w' := by
  have KV := Lib.hid (fun w hT => valid_any s (by omega) w hT)
  have hw2 := tabs_size hT
  obtain ⟨vb, hvb⟩ : ∃ vb, validB s.data.toList = vb := ⟨_, rfl⟩
  have HV := Lib.hid hvb
  rw [hvb] at KV
  clear hvb
  go_enter Tryd.func12, Tryd.ntmps12
  go_wp2_with fail
  refine (KV.out w hT).mono ?_
  rintro e w1 ⟨rfl, hb1⟩
  have hT1 := tabs_low hw2 hT hb1
  cases vb
  · go_wp2_with fail
    go_ret
    exact ⟨by unfold sizeR; rw [HV.out]; rfl, hb1⟩
  · obtain ⟨b, hb⟩ : ∃ b, w1.heap.size = b := ⟨_, rfl⟩
    have hnew : Boxed (w1.alloc (.cells #[.int .i64 0] 3)) b 3 (.int .i64 0) := by rw [← hb]; exact Boxed.new w1 _ _
    have hbW : Below w1.heap.size w1 (w1.alloc (.cells #[.int .i64 0] 3)) := (Below.refl _ w1).alloc (Nat.le_refl _) _
    have hw1 := tabs_size hT1
    have KP := Lib.hid (pieces_any _ _ b b _ (size1_ok b) s hs (w1.alloc (.cells #[.int .i64 0] 3)) hnew HV.out ⟨by omega, by omega⟩ (tabs_low hw1 hT1 hbW))
    have hbl := hb1.size
    have HB0 := Lib.hid (hb1.trans (hbW.mono hbl))
    clear hnew hbW hw1
    go_wp2_with fail
    refine KP.out.mono ?_
    rintro e w2 ⟨rfl, h2, hb2⟩
    have hc2 := h2.cell
    go_wp2_with fail
    go_ret
    exact ⟨by unfold sizeR; rw [HV.out]; rfl, HB0.out.trans (hb2.mono (by omega))⟩
end Go.Proofs.YtcadklhjhjbhaaaDoor
