/- esc (layer 4): Unquote, whole. -/
import Derived.Test.YtcadklhjhjbhaaaDoorEscG
namespace Go.Proofs.YtcadklhjhjbhaaaDoor
set_option maxRecDepth 20000
set_option linter.unusedSimpArgs false
set_option linter.unusedVariables false
open Go.RowKit Go.Lib Go.Shelf
attribute [local go_sem] Oper.semAt_some
def unquoteV (L : List UInt8) (a : Int) : Except Nat (List UInt8 × Nat) :=
  if a < 0 ∨ (L.length : Int) < a then .error 1 else if L.length ≤ a.toNat then .error 5 else if at_ L a.toNat ≠ 34 then .error 6 else unq L (a.toNat + 1)
def ansU : Except Nat (List UInt8 × Nat) → List UInt8 × Nat × Nat
  | .ok (s, i) => (s, i, 0)
  | .error m => ([], 0, m)
def retU (x : List UInt8 × Nat × Nat) : Ending := .returned (.tuple #[.string ⟨x.1.toArray⟩, .int .i64 (x.2.1 : Int), .int .i64 (x.2.2 : Int)])
theorem Laid3.post {p : Nat} {s : List UInt8} {i m : Int} {w0 w w' : World} (h : Laid3 p (p + 1) (p + 1 + 1) s i m w w') (hp : w0.heap.size ≤ p) (hb : Below w0.heap.size w0 w) : Below w0.heap.size w0 w' :=
  ⟨h.os.trans hb.os, h.tape.trans hb.tape, h.output.trans hb.output, Nat.le_trans hb.size h.size, fun k hk => (h.block k (Nat.lt_of_lt_of_le hk hb.size) (by omega) (by omega) (by omega)).trans (hb.block k hk)⟩
set_option maxRecDepth 100000 in
set_option maxHeartbeats 4000000 in
theorem unquote_any (t : ByteArray) (a : Int) (w : World) (ht : t.size ≤ 100000) (hT : Tabs w) :
    Calls Tryd.prog 13 #[.string t, .int .i64 a] w fun e w' => e = retU (ansU (unquoteV t.data.toList a)) ∧ Below w.heap.size w w' := by
  have hmf : ∀ (fn : Fn) (first cap : Array Value) (w : World), (Instr.makeFunc fn first cap).run Tryd.prog w = .ok (.func fn first cap) w := fun _ _ _ _ => rfl
  obtain ⟨R, hR⟩ : ∃ R, unquoteV t.data.toList a = R := ⟨_, rfl⟩
  rw [hR]
  have HR := Lib.hid hR
  clear hR
  obtain ⟨p, hp⟩ : ∃ p, w.heap.size = p := ⟨_, rfl⟩
  obtain ⟨W0, hW0⟩ : ∃ W0, ((w.alloc (.cells #[.string ⟨#[]⟩] 9)).alloc (.cells #[.int .i64 0] 3)).alloc (.cells #[.int .i64 0] 23) = W0 := ⟨_, rfl⟩
  have b1 : Boxed W0 p 9 (.string ⟨#[]⟩) := by rw [← hW0, ← hp]; exact ((Boxed.new w _ _).alloc _).alloc _
  have b2 : Boxed W0 (p + 1) 3 (.int .i64 0) := by
    rw [← hW0, ← hp]
    have h := Boxed.new (w.alloc (.cells #[.string ⟨#[]⟩] 9)) 3 (.int .i64 0)
    rw [World.size_alloc] at h
    exact h.alloc _
  have b3 : Boxed W0 (p + 1 + 1) 23 (.int .i64 0) := by
    rw [← hW0, ← hp]
    have h := Boxed.new ((w.alloc (.cells #[.string ⟨#[]⟩] 9)).alloc (.cells #[.int .i64 0] 3)) 23 (.int .i64 0)
    rw [World.size_alloc, World.size_alloc] at h
    exact h
  have hz0 : W0.heap.size = p + 3 := by rw [← hW0, ← hp]; simp
  have hB0 : Below w.heap.size w W0 := by rw [← hW0]; exact (((Below.refl _ w).alloc (Nat.le_refl _) _).alloc (by simp) _).alloc (by simp; omega) _
  have KY1 := Lib.hid (fun w => must_yes 1 w)
  have KN1 := Lib.hid (fun w => must_no 1 w)
  have HW0 := Lib.hid hW0
  clear hW0
  -- the end by a panic
  have dies : ∀ (m : Nat) (W : World), R = .error m → Boxed W p 9 (.string ⟨#[]⟩) → Boxed W (p + 1) 3 (.int .i64 0) → Boxed W (p + 1 + 1) 23 (.int .i64 0) → Below w.heap.size w W →
      ∀ (tm : Array Value), tm[4]? = some (.pointer (some ⟨p, 0, none⟩)) → tm[5]? = some (.pointer (some ⟨p + 1, 0, none⟩)) → tm[6]? = some (.pointer (some ⟨p + 1 + 1, 0, none⟩)) →
      Leaves Tryd.prog Tryd.f13 tm (fun e w' => e = retU (ansU R) ∧ Below w.heap.size w w') [{ target := .fn (.func 30) #[.pointer (some ⟨p, 0, none⟩), .pointer (some ⟨p + 1, 0, none⟩), .pointer (some ⟨p + 1 + 1, 0, none⟩)], args := #[] }] (.panicking (pch (m : Int))) W := by
    intro m W hR h1 h2 h3 hb tm t4 t5 t6
    refine leaves_cons (f := 30) (args := #[.pointer (some ⟨p, 0, none⟩), .pointer (some ⟨p + 1, 0, none⟩), .pointer (some ⟨p + 1 + 1, 0, none⟩)]) (by simp) (by simp [go_sem]) ?_
    refine (catch_panic p (p + 1) (p + 1 + 1) _ _ _ (m : Int) W h1 h2 h3 (by omega) (by omega) (by omega)).mono ?_
    rintro e u' w'' ⟨rfl, rfl, hL⟩
    have hb2 := hL.post (by omega) hb
    have k1 := hL.bs.cell
    have k2 := hL.bi.cell
    have k3 := hL.be.cell
    rw [hR]
    simp [Leaves, settle, results, Tryd.results13, go_sem, k1, k2, k3, t4, t5, t6, retU, ansU, hb2]
  have lives : ∀ (s : List UInt8) (i : Nat) (W : World), R = .ok (s, i) → Boxed W p 9 (.string ⟨s.toArray⟩) → Boxed W (p + 1) 3 (.int .i64 (i : Int)) → Boxed W (p + 1 + 1) 23 (.int .i64 0) → Below w.heap.size w W →
      ∀ (tm : Array Value), tm[4]? = some (.pointer (some ⟨p, 0, none⟩)) → tm[5]? = some (.pointer (some ⟨p + 1, 0, none⟩)) → tm[6]? = some (.pointer (some ⟨p + 1 + 1, 0, none⟩)) →
      Leaves Tryd.prog Tryd.f13 tm (fun e w' => e = retU (ansU R) ∧ Below w.heap.size w w') [{ target := .fn (.func 30) #[.pointer (some ⟨p, 0, none⟩), .pointer (some ⟨p + 1, 0, none⟩), .pointer (some ⟨p + 1 + 1, 0, none⟩)], args := #[] }] .returning W := by
    intro s i W hR h1 h2 h3 hb tm t4 t5 t6
    refine leaves_cons (f := 30) (args := #[.pointer (some ⟨p, 0, none⟩), .pointer (some ⟨p + 1, 0, none⟩), .pointer (some ⟨p + 1 + 1, 0, none⟩)]) (by simp) (by simp [go_sem]) ?_
    refine (catch_none p (p + 1) (p + 1 + 1) W).mono ?_
    rintro e u' w'' ⟨rfl, rfl, rfl⟩
    have k1 := h1.cell
    have k2 := h2.cell
    have k3 := h3.cell
    rw [hR]
    simp [Leaves, settle, results, Tryd.results13, go_sem, k1, k2, k3, t4, t5, t6, retU, ansU, hb]
  have KY6 := Lib.hid (fun w => must_yes 6 w)
  have KN6 := Lib.hid (fun w => must_no 6 w)
  have hTz := tabs_size hT
  have hlen := len_of t
  have dies0 : ∀ (m : Nat) (W : World), R = .error m → Oth (p + 3) W0 W → ∀ (tm : Array Value), tm[4]? = some (.pointer (some ⟨p, 0, none⟩)) → tm[5]? = some (.pointer (some ⟨p + 1, 0, none⟩)) → tm[6]? = some (.pointer (some ⟨p + 1 + 1, 0, none⟩)) →
      Leaves Tryd.prog Tryd.f13 tm (fun e w' => e = retU (ansU R) ∧ Below w.heap.size w w') [{ target := .fn (.func 30) #[.pointer (some ⟨p, 0, none⟩), .pointer (some ⟨p + 1, 0, none⟩), .pointer (some ⟨p + 1 + 1, 0, none⟩)], args := #[] }] (.panicking (pch (m : Int))) W := fun m W hR ho =>
    dies m W hR ((ho.block p (by omega) (by omega)).trans b1) ((ho.block (p + 1) (by omega) (by omega)).trans b2) ((ho.block (p + 1 + 1) (by omega) (by omega)).trans b3) (hB0.trans (ho.low (by omega) (by omega)))
  have HD := Lib.hid dies0
  have HL := Lib.hid lives
  clear dies dies0 lives
  by_cases c1 : a < 0
  · have hRe : R = .error 1 := by rw [← HR.out]; unfold unquoteV; rw [if_pos (.inl c1)]
    go_enter_defers Tryd.func13, Tryd.ntmps13
    go_wp2_with fail
    rw [HW0.out]
    refine (KN1.out _).mono ?_
    rintro e w1 ⟨rfl, rfl⟩
    go_wp2_with fail
    exact HD.out 1 _ hRe (Oth.refl _ _) _ rfl rfl rfl
  have c1' : 0 ≤ a := by omega
  by_cases c2 : (t.size : Int) < a
  · have hRe : R = .error 1 := by rw [← HR.out]; unfold unquoteV; rw [if_pos (.inr (by omega))]
    go_enter_defers Tryd.func13, Tryd.ntmps13
    go_wp2_with fail
    rw [HW0.out, decide_eq_false (show ¬ a ≤ (t.size : Int) by omega)]
    refine (KN1.out _).mono ?_
    rintro e w1 ⟨rfl, rfl⟩
    go_wp2_with fail
    exact HD.out 1 _ hRe (Oth.refl _ _) _ rfl rfl rfl
  have c2' : a ≤ (t.size : Int) := by omega
  obtain ⟨i, hi⟩ : ∃ i : Nat, a = (i : Int) := ⟨a.toNat, by omega⟩
  subst hi
  have hRv : unquoteV t.data.toList (i : Int) = if t.data.toList.length ≤ i then .error 5 else if at_ t.data.toList i ≠ 34 then .error 6 else unq t.data.toList (i + 1) := by
    unfold unquoteV
    rw [if_neg (by omega)]
    rfl
  have HRV := Lib.hid (HR.out.symm.trans hRv)
  clear hRv HR c1
  have KT := Lib.hid (fun b w hb ha => take_yes t i b (.map none) w hb ht ha)
  have KU := Lib.hid (fun b w hb ha => take_no t i b (.map none) w hb ht ha)
  have KX := Lib.hid (fun b w hb ha hT => text_any t (i + 1) b w hb ht ha hT)
  have hnew : (W0.alloc (rdB t i (.map none))).heap[p + 3]? = some (rdB t i (.map none)) := by rw [← hz0]; exact World.alloc_heap_new W0 _
  have hoA : Oth (p + 3) W0 (W0.alloc (rdB t i (.map none))) := Oth.below ((Below.refl _ W0).alloc (Nat.le_refl _) _)
  have hTA : TabsO (p + 3) (W0.alloc (rdB t i (.map none))) := by
    refine ⟨tabs_low hTz hT (hB0.trans ((Below.refl _ W0).alloc (by omega) _)), ?_, ?_⟩ <;> omega
  go_enter_defers Tryd.func13, Tryd.ntmps13
  go_wp2_with fail
  rw [HW0.out]
  refine (KY1.out _).mono ?_
  rintro e w1 ⟨rfl, rfl⟩
  go_wp2_with fail
  have hoB : ∀ {W}, Oth (p + 3) (w1.alloc (rdB t i (.map none))) W → Oth (p + 3) w1 W := fun h => hoA.trans h
  obtain ⟨W2, hW2⟩ : ∃ W2, w1.alloc (rdB t i (.map none)) = W2 := ⟨_, rfl⟩
  have hW2' : w1.alloc (.cells #[.string t, .int .i64 (i : Int), .map none] RdT) = W2 := hW2
  rw [hW2] at hnew hoA hTA hoB
  rw [hW2']
  clear hW2 hW2'
  by_cases c3 : i < t.size
  · have hRv := HRV.out
    rw [if_neg (by omega)] at hRv
    have KT1 := KT.out (p + 3) W2 hnew c3
    rw [at_get c3] at KT1
    obtain ⟨C, hC⟩ : ∃ C, at_ t.data.toList i = C := ⟨_, rfl⟩
    rw [hC] at KT1 hRv
    refine KT1.mono ?_
    rintro e w3 ⟨rfl, hb3, ho3⟩
    by_cases c4 : C = 34
    · have e4 : ((C : Int) == 34) = true := by simp [c4]
      have hi1 : i + 1 ≤ t.size := c3
      rw [if_neg (by simp [c4])] at hRv
      have HRv := Lib.hid hRv
      clear hRv HRV KT KU c4 hC KT1 c3
      go_wp2_with fail
      refine (KY6.out _).mono ?_
      rintro e w4 ⟨rfl, rfl⟩
      go_wp2_with fail
      refine (KX.out (p + 3) _ hb3 hi1 (hTA.keep ho3)).mono ?_
      rintro e w5 ⟨ho5, ⟨s, j, sh, rfl, hb5, hj, hU⟩ | ⟨m, rfl, hU⟩⟩
      · have hoo := hoB (ho3.trans ho5)
        have x1 : Boxed w5 p 9 _ := (hoo.block p (by omega) (by omega)).trans b1
        have x2 : Boxed w5 (p + 1) 3 _ := (hoo.block (p + 1) (by omega) (by omega)).trans b2
        have x3 : Boxed w5 (p + 1 + 1) 23 _ := (hoo.block (p + 1 + 1) (by omega) (by omega)).trans b3
        have y1 := x1.cell
        have z1 := x1.frozen
        have y4 := (rd_cells hb5).2.1
        have X1 := x1.set (.string ⟨s.toArray⟩)
        have X2 := x2.other (B' := p) (by omega) (.string ⟨s.toArray⟩)
        have X3 := x3.other (B' := p) (by omega) (.string ⟨s.toArray⟩)
        have Y1 := X1.cell
        have Z1 := X1.frozen
        have Y2 := X2.cell
        have Z2 := X2.frozen
        have Y3 := X3.cell
        have Z3 := X3.frozen
        have hbr : (w5.setCell ⟨p, 0, none⟩ (.string ⟨s.toArray⟩)).heap[p + 3]? = some (rdB t j sh) := (Below.heap_setCell w5 ⟨p, 0, none⟩ _ (p + 3) (by show p + 3 ≠ p; omega)).trans hb5
        have Y4 := (rd_cells hbr).2.1
        have A1 := ((X1.set (.string ⟨s.toArray⟩)).other (B' := p + 1) (by omega) (.int .i64 (j : Int))).other (B' := p + 1 + 1) (by omega) (.int .i64 0)
        have A2 := ((X2.other (B' := p) (by omega) (.string ⟨s.toArray⟩)).set (.int .i64 (j : Int))).other (B' := p + 1 + 1) (by omega) (.int .i64 0)
        have A3 := ((X3.other (B' := p) (by omega) (.string ⟨s.toArray⟩)).other (B' := p + 1) (by omega) (.int .i64 (j : Int))).set (.int .i64 0)
        have A4 : Below w.heap.size w ((((w5.setCell ⟨p, 0, none⟩ (.string ⟨s.toArray⟩)).setCell ⟨p, 0, none⟩ (.string ⟨s.toArray⟩)).setCell ⟨p + 1, 0, none⟩ (.int .i64 (j : Int))).setCell ⟨p + 1 + 1, 0, none⟩ (.int .i64 0)) :=
          ((((hB0.trans (hoo.low (by omega) (by omega))).setCell (p := ⟨p, 0, none⟩) (by show w.heap.size ≤ p; omega) _).setCell (p := ⟨p, 0, none⟩) (by show w.heap.size ≤ p; omega) _).setCell (p := ⟨p + 1, 0, none⟩) (by show w.heap.size ≤ p + 1; omega) _).setCell (p := ⟨p + 1 + 1, 0, none⟩) (by show w.heap.size ≤ p + 1 + 1; omega) _
        have HA := Lib.hid (And.intro A1 (And.intro A2 (And.intro A3 A4)))
        clear A1 A2 A3 A4 X1 X2 X3 hb3 ho3 hb5 x2 x3 ho5
        go_wp2_with fail
        obtain ⟨W6, hW6⟩ : ∃ W6, w5.setCell ⟨p, 0, none⟩ (.string ⟨s.toArray⟩) = W6 := ⟨_, rfl⟩
        rw [hW6] at HA Y1 Z1 Y2 Z2 Y3 Z3 Y4 hbr ⊢
        clear hW6 x1 y1 z1 y4
        go_wp2_with (go_region)
        refine HL.out s j _ (HRv.out.trans hU) ?_ ?_ ?_ ?_ _ rfl rfl rfl
        · exact HA.out.1
        · exact HA.out.2.1
        · exact HA.out.2.2.1
        · exact ⟨HA.out.2.2.2.os, HA.out.2.2.2.tape, HA.out.2.2.2.output, HA.out.2.2.2.size, HA.out.2.2.2.block⟩
      · go_wp2_with fail
        exact HD.out m _ (HRv.out.trans hU) (hoB (ho3.trans ho5)) _ rfl rfl rfl
    · have e4 : ((C : Int) == 34) = false := by simp; omega
      rw [if_pos c4] at hRv
      have HRv := Lib.hid hRv
      clear hRv HRV KT KU c4 hC KT1 c3
      go_wp2_with fail
      refine (KN6.out _).mono ?_
      rintro e w4 ⟨rfl, rfl⟩
      go_wp2_with fail
      exact HD.out 6 _ HRv.out (hoB ho3) _ rfl rfl rfl
  · have hRv := HRV.out
    rw [if_pos (by omega)] at hRv
    refine (KU.out (p + 3) W2 hnew (by omega)).mono ?_
    rintro e w3 ⟨rfl, ho3⟩
    have HRv := Lib.hid hRv
    clear hRv HRV KT KU c3
    go_wp2_with fail
    exact HD.out 5 _ HRv.out (hoB ho3) _ rfl rfl rfl
end Go.Proofs.YtcadklhjhjbhaaaDoor
