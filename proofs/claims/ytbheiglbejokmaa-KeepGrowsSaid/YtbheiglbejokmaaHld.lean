/- Drawn regions that store into cells which they load: what is loaded stays till the first store. No program in it. -/
import Derived.Test.YtbheiglbejokmaaMapm
import Derived.OrdersHeld
namespace Go.Proofs.Ytbheiglbejokmaa
open Go.RowKit Go.Sort
section
variable {P : Program} {ops : Array Oper} {Q : Exit → Act → World → Prop} {md : Region.Mode} {S : World → Prop} {st : Nat}
/-- Any order; behind each step ahead of the first store S holds. -/
def Hold (P : Program) (md : Region.Mode) (ops : Array Oper) (Q : Exit → Act → World → Prop) (S : World → Prop) (st : Nat) : Nat → Array Bool → Act → World → Prop
  | 0, l, a, w => wpAny P md ops Q 0 l a w
  | n + 1, l, a, w => (Region.ready md ops l = [] → Q .normal a w) ∧ ∀ i ∈ Region.ready md ops l, Go.wpOp P ops Q i (fun a' w' => ((l.setIfInBounds i true).getD st true = false → S w') ∧ Hold P md ops Q S st n (l.setIfInBounds i true) a' w') a w
theorem any_of_hold : ∀ (n : Nat) (l : Array Bool) (a : Act) (w : World), Hold P md ops Q S st n l a w → wpAny P md ops Q n l a w := by
  intro n
  induction n with
  | zero => intro l a w h; exact h
  | succ n ih =>
    intro l a w h
    exact ⟨h.1, fun i hi => wpOp_mono (fun a' w' h' => ih _ a' w' h'.2) (h.2 i hi)⟩
/-- One operation waits for another. -/
def waitsB (md : Region.Mode) (ops : Array Oper) (j i : Nat) : Bool := match ops[j]? with | some o => o.after.any (fun e => Region.binds md e && e.on == i) | none => false
/-- Each waits for the one ahead of it. -/
def chainB (md : Region.Mode) (ops : Array Oper) : List Nat → Bool
  | a :: b :: r => waitsB md ops b a && chainB md ops (b :: r)
  | _ => true
theorem chain_pred : ∀ (r : List Nat) (i j : Nat), chainB md ops (i :: r) = true → j ∈ r → ∃ k ∈ i :: r, waitsB md ops j k = true := by
  intro r
  induction r with
  | nil => intro i j _ h; cases h
  | cons b r ih =>
    intro i j hc hj
    rw [chainB, Bool.and_eq_true] at hc
    rcases List.mem_cons.1 hj with rfl | hj
    · exact ⟨i, List.mem_cons_self .., hc.1⟩
    · obtain ⟨k, hk, hw⟩ := ih b j hc.2 hj
      exact ⟨k, List.mem_cons_of_mem _ hk, hw⟩
theorem pend_false {l : Array Bool} {k : Nat} (h : l.getD k true = false) : l.getD k false = false := by
  rcases Nat.lt_or_ge k l.size with h' | h'
  · simp [h'] at h ⊢; exact h
  · simp [Array.getElem?_eq_none h']
theorem waits_not {l : Array Bool} {j k : Nat} (hj : j ∈ Region.ready md ops l) (hw : waitsB md ops j k = true) (hk : l.getD k true = false) : False := by
  obtain ⟨_, oj, hoj, hall⟩ := mem_ready.1 hj
  unfold waitsB at hw
  rw [hoj] at hw
  obtain ⟨e, he, hb⟩ := Array.any_eq_true'.1 hw
  rw [Bool.and_eq_true, beq_iff_eq] at hb
  have h1 := hall e he hb.1
  rw [hb.2, pend_false hk] at h1
  cases h1
theorem hold_take {i : Nat} {oi : Oper} {v : Value} {d : Tmp} {path : List Nat} (hi : ops[i]? = some oi) (hd : oi.dst = some d) (hsel : Region.noSelect ops = true) (hst : st ∈ path) (hch : chainB md ops (i :: path) = true) (hQ : ∀ c a w, Q (.panic c) (a.put oi.dst v) w → Q (.panic c) a w) : ∀ (n : Nat) (l : Array Bool) (a : Act) (w : World),
      (∀ j oj, ops[j]? = some oj → j ≠ i → l.getD j true = false → (∀ e ∈ oj.after, Region.binds md e = true → e.on ≠ i) → oi.apart ops oj = true) →
      i ∈ Region.ready md ops l → (∀ k ∈ path, k ≠ i ∧ l.getD k true = false) → YieldsIf P ops S oi v a → S w →
      Hold P md ops Q S st n (l.setIfInBounds i true) (a.put (some d) v) w → Hold P md ops Q S st (n + 1) l a w := by
  rw [hd] at hQ
  intro n
  induction n with
  | zero =>
    intro l a w _ hr _ hy hS H
    refine ⟨fun h => (by rw [h] at hr; cases hr), fun j hj => ?_⟩
    rcases Decidable.em (j = i) with rfl | hn
    · exact hy.wpOp hi hS (by rw [hd]; exact ⟨fun _ => hS, H⟩)
    · have := ready_mono hj hn
      rw [H.1] at this
      cases this
  | succ n ih =>
    intro l a w hfree hr hpd hy hS H
    have hun : l.getD i true = false := (mem_ready.1 hr).1
    refine ⟨fun h => (by rw [h] at hr; cases hr), fun j hj => ?_⟩
    rcases Decidable.em (j = i) with rfl | hn
    · exact hy.wpOp hi hS (by rw [hd]; exact ⟨fun _ => hS, H⟩)
    · obtain ⟨hju, oj, hoj, hall⟩ := mem_ready.1 hj
      have hw : ∀ e ∈ oj.after, Region.binds md e = true → e.on ≠ i := by
        intro e he hb eq
        have h1 := hall e he hb
        rw [eq, pend_false hun] at h1
        cases h1
      have hjp : j ∉ path := by
        intro hm
        obtain ⟨k, hk, hwk⟩ := chain_pred path i j hch hm
        rcases List.mem_cons.1 hk with rfl | hk
        · exact waits_not hj hwk hun
        · exact waits_not hj hwk (hpd k hk).2
      have hjs : j ≠ st := fun e => hjp (e ▸ hst)
      have hne : i ≠ st := fun e => (hpd st hst).1 e.symm
      have h2 := wpOp_putIf hoj (hfree j oj hoj hn hju hw) (fun cs b => Region.noSelect_spec hsel i oi cs b hi) (fun cs b => Region.noSelect_spec hsel j oj cs b hoj) (by rw [hd]; exact hQ) hy (by rw [hd]; exact H.2 j (ready_mono hj hn))
      refine wpOp_mono (fun a' w' h3 => ?_) h2
      obtain ⟨hy3, hS3, hH3⟩ := h3
      have hS4 : S w' := hS3 (by rw [getD_set_ne true hjs, getD_set_ne true hne]; exact (hpd st hst).2)
      refine ⟨fun _ => hS4, ih (l.setIfInBounds j true) a' w' (fun k ok hk hki hkun hno => ?_) (ready_mono hr (Ne.symm hn)) (fun k hk => ⟨(hpd k hk).1, by rw [getD_set_ne true (fun e : j = k => hjp (by rw [e]; exact hk))]; exact (hpd k hk).2⟩) hy3 hS4 ?_⟩
      · refine hfree k ok hk hki ?_ hno
        rcases Decidable.em (j = k) with rfl | hjk
        · exact hju
        · rw [getD_set_ne true hjk] at hkun; exact hkun
      · rw [Array.setIfInBounds_comm _ _ hn]
        rw [hd] at hH3
        exact hH3
theorem hold_takeP {i : Nat} {oi : Oper} {v : Value} {d : Tmp} (hi : ops[i]? = some oi) (hd : oi.dst = some d) (hsel : Region.noSelect ops = true) (hne : i ≠ st) (hQ : ∀ c a w, Q (.panic c) (a.put oi.dst v) w → Q (.panic c) a w) : ∀ (n : Nat) (l : Array Bool) (a : Act) (w : World),
      (∀ j oj, ops[j]? = some oj → j ≠ i → l.getD j true = false → (∀ e ∈ oj.after, Region.binds md e = true → e.on ≠ i) → oi.apart ops oj = true) →
      i ∈ Region.ready md ops l → YieldsIf P ops (fun _ => True) oi v a → (l.getD st true = false → S w) →
      Hold P md ops Q S st n (l.setIfInBounds i true) (a.put (some d) v) w → Hold P md ops Q S st (n + 1) l a w := by
  rw [hd] at hQ
  have hkeep : ∀ (l : Array Bool) (w : World), (l.getD st true = false → S w) → (l.setIfInBounds i true).getD st true = false → S w := fun l w h h2 => h (by rw [getD_set_ne true hne] at h2; exact h2)
  intro n
  induction n with
  | zero =>
    intro l a w _ hr hy hS H
    refine ⟨fun h => (by rw [h] at hr; cases hr), fun j hj => ?_⟩
    rcases Decidable.em (j = i) with rfl | hn
    · exact hy.wpOp hi trivial (by rw [hd]; exact ⟨hkeep l w hS, H⟩)
    · have := ready_mono hj hn
      rw [H.1] at this
      cases this
  | succ n ih =>
    intro l a w hfree hr hy hS H
    have hun : l.getD i true = false := (mem_ready.1 hr).1
    have hunF : l.getD i false = false := by
      rcases Nat.lt_or_ge i l.size with h' | h'
      · simp [h'] at hun ⊢; exact hun
      · simp [Array.getElem?_eq_none h']
    refine ⟨fun h => (by rw [h] at hr; cases hr), fun j hj => ?_⟩
    rcases Decidable.em (j = i) with rfl | hn
    · exact hy.wpOp hi trivial (by rw [hd]; exact ⟨hkeep l w hS, H⟩)
    · obtain ⟨hju, oj, hoj, hall⟩ := mem_ready.1 hj
      have hw : ∀ e ∈ oj.after, Region.binds md e = true → e.on ≠ i := by
        intro e he hb eq
        have h1 := hall e he hb
        rw [eq, hunF] at h1
        cases h1
      have h2 := wpOp_putIf hoj (hfree j oj hoj hn hju hw) (fun cs b => Region.noSelect_spec hsel i oi cs b hi) (fun cs b => Region.noSelect_spec hsel j oj cs b hoj) (by rw [hd]; exact hQ) hy (by rw [hd]; exact H.2 j (ready_mono hj hn))
      refine wpOp_mono (fun a' w' h3 => ?_) h2
      obtain ⟨hy3, hS3, hH3⟩ := h3
      have hS4 : (l.setIfInBounds j true).getD st true = false → S w' := fun h => hS3 (by rw [Array.setIfInBounds_comm _ _ (Ne.symm hn), getD_set_ne true hne]; exact h)
      refine ⟨hS4, ih (l.setIfInBounds j true) a' w' (fun k ok hk hki hkun hno => ?_) (ready_mono hr (Ne.symm hn)) hy3 hS4 ?_⟩
      · refine hfree k ok hk hki ?_ hno
        rcases Decidable.em (j = k) with rfl | hjk
        · exact hju
        · rw [getD_set_ne true hjk] at hkun; exact hkun
      · rw [Array.setIfInBounds_comm _ _ hn]
        rw [hd] at hH3
        exact hH3
variable {l : Array Bool} {a : Act} {w : World} {n : Nat}
theorem hold_begin {id : Nat} (hm : P.follows .mixedOrders = true) (h : Hold P .any ops (NoPanic Q) S st ops.size (Array.replicate ops.size false) a w.drew) : (Code.region id ops true).wp P (NoPanic Q) a w := wp_region_any hm (any_of_hold _ _ _ _ h)
/-- What yields in each world of S comes first: the first store waits for it, by this path. -/
theorem hl_take (i : Nat) (d : Tmp) (path : List Nat) {o : Oper} {v : Value} (L : Array Bool) (hL : l.setIfInBounds i true = L) (hi : ops[i]? = some o) (hd : o.dst = some d) (hsel : Region.noSelect ops = true) (hst : path.contains st = true) (hch : chainB md ops (i :: path) = true) (hpd : (path.all fun k => (k != i) && !(l.getD k true)) = true) (hf : Region.free md ops l i = true) (hr : (Region.ready md ops l).contains i = true) (hg : o.guard = none) (hy : ∀ W, S W → (execOp a.eval o).run P W = .ok (.value v) W) (hS : S w)
    (h : Hold P md ops (NoPanic Q) S st n L (a.put (some d) v) w) : Hold P md ops (NoPanic Q) S st (n + 1) l a w := by
  subst hL
  exact hold_take hi hd hsel (by simpa using hst) hch (fun _ _ _ h => h) n l a w (Region.free_spec hi hf) (by simpa using hr) (fun k hk => by
    have h1 := List.all_eq_true.1 hpd k hk
    rw [Bool.and_eq_true, Bool.not_eq_true', bne_iff_ne] at h1
    exact h1) (.inl ⟨by simp [Region.wanted, hg], hy⟩) hS h
/-- What yields in any world comes first. -/
theorem hl_pure (i : Nat) (d : Tmp) {o : Oper} {v : Value} (L : Array Bool) (hL : l.setIfInBounds i true = L) (hi : ops[i]? = some o) (hd : o.dst = some d) (hsel : Region.noSelect ops = true) (hne : (i == st) = false) (hf : Region.free md ops l i = true) (hr : (Region.ready md ops l).contains i = true) (hg : o.guard = none) (hy : ∀ W, (execOp a.eval o).run P W = .ok (.value v) W) (hS : S w)
    (h : Hold P md ops (NoPanic Q) S st n L (a.put (some d) v) w) : Hold P md ops (NoPanic Q) S st (n + 1) l a w := by
  subst hL
  exact hold_takeP hi hd hsel (by simpa using hne) (fun _ _ _ h => h) n l a w (Region.free_spec hi hf) (by simpa using hr) (.inl ⟨by simp [Region.wanted, hg], fun W _ => hy W⟩) (fun _ => hS) h
/-- .. behind the first store. -/
theorem hl_pureS (i : Nat) (d : Tmp) {o : Oper} {v : Value} (L : Array Bool) (hL : l.setIfInBounds i true = L) (hi : ops[i]? = some o) (hd : o.dst = some d) (hsel : Region.noSelect ops = true) (hne : (i == st) = false) (hf : Region.free md ops l i = true) (hr : (Region.ready md ops l).contains i = true) (hg : o.guard = none) (hy : ∀ W, (execOp a.eval o).run P W = .ok (.value v) W) (hst : l.getD st true = true)
    (h : Hold P md ops (NoPanic Q) S st n L (a.put (some d) v) w) : Hold P md ops (NoPanic Q) S st (n + 1) l a w := by
  subst hL
  exact hold_takeP hi hd hsel (by simpa using hne) (fun _ _ _ h => h) n l a w (Region.free_spec hi hf) (by simpa using hr) (.inl ⟨by simp [Region.wanted, hg], fun W _ => hy W⟩) (fun h => by rw [hst] at h; cases h) h
/-- One comes next. -/
theorem hold_next {rs : List Nat} (hr : Region.ready md ops l = rs) (hne : rs ≠ []) (h : ∀ i ∈ rs, Go.wpOp P ops Q i (fun a' w' => ((l.setIfInBounds i true).getD st true = false → S w') ∧ Hold P md ops Q S st n (l.setIfInBounds i true) a' w') a w) : Hold P md ops Q S st (n + 1) l a w :=
  ⟨fun h0 => absurd (hr ▸ h0) hne, hr ▸ h⟩
theorem hold_done (hr : Region.ready md ops l = []) (h : Q .normal a w) : ∀ n, Hold P md ops Q S st n l a w
  | 0 => ⟨hr, h⟩
  | _ + 1 => ⟨fun _ => h, by rw [hr]; simp⟩
end
end Go.Proofs.Ytbheiglbejokmaa
