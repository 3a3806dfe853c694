/- A region that draws its order, in a round of a range over a function: the walk of the plain calculus serves. No program in it. -/
import Derived.Test.YtdnkpclpcelbaaaDoorPan
import Derived.Test.YtdnkpclpcelbaaaDoorRng
import Derived.OrdersIn
import Derived.RangeFuncCalls
namespace Go.Proofs.YtdnkpclpcelbaaaDoor
set_option maxRecDepth 20000
set_option linter.unusedSimpArgs false
set_option linter.unusedVariables false
open Go.RowKit Go.Sort
theorem any_inw {P : Program} {Q : Exit → Act → World → Prop} {a : Act} {w : World} {l : List Oper} (n : Nat) (hn : n ≤ l.length) (hB : invB l.toArray a.tmps.size = true) (htl : tailB l.toArray n = true)
    (h : wpInw P l.toArray w (fun A w' => wpAny P .any l.toArray Q (l.length - n) (headUp l.toArray n) A w') (l.take n) 0 a [] []) : wpAny P .any l.toArray Q l.toArray.size (Array.replicate l.toArray.size false) a { w with drawn := w.drawn + 1 } := by
  obtain ⟨Us, hl, hS, hO, hE⟩ := wpInw_all hB (l.take n) [] a [] [] ⟨rfl, rfl, fun _ _ => rfl, fun j hj => by simp at hj, fun j hj => by simp at hj, fun q hq => by simp at hq, fun q hq => by simp at hq⟩ (fun j hj => by
    have hj' : j < n := by rw [List.length_take] at hj; omega
    rw [List.getElem?_take_of_lt hj']
    simp) h
  simp only [List.nil_append, List.length_nil, Nat.zero_add] at hO hE
  · have hln : (l.take n).length = n := by rw [List.length_take]; omega
    rw [hln] at hE
    refine (wpAny_of_inw (Ts := Us) (w0 := w) (n := n) hB (by simpa using hn) htl hS (fun i o hi ho => hO i o (by rw [List.getElem?_take_of_lt hi]; simpa using ho)) (by simpa using hE) _ _ _ _ ⟨?_, rfl, rfl, by simp, fun j hj => ?_, fun j _ hj => ?_, fun t _ => rfl, fun j hj => ?_, fun i j _ hi => ?_⟩ ?_)
    · exact ⟨rfl, rfl, rfl, Nat.le_refl _, fun _ _ => rfl⟩
    · exfalso
      have := Array.mem_of_getElem? hj
      simp at this
    · exfalso
      have := Array.mem_of_getElem? hj
      simp at this
    · exfalso
      have := Array.mem_of_getElem? hj
      simp at this
    · exfalso
      have := Array.mem_of_getElem? hi
      simp at this
    · simp
section
variable {P : Program} {ops : Array Oper} {Q : Exit → Act → World → Prop} {l n : Nat}
def notDefer (o : Oper) : Bool := match o.op with
  | .defer _ => false
  | _ => true
theorem opIn_of {o : Oper} {a : Act} {w : World} {K : Act → World → Prop} (hd : notDefer o = true) (h : o.wp P a w K Q) : o.wpIn (Fence.wide.inRound l) n P a w K Q := by
  refine ⟨fun _ _ => trivial, ?_⟩
  have hd2 : ∀ c, o.op ≠ .defer c := fun c e => by
    unfold notDefer at hd
    rw [e] at hd
    cases hd
  rw [Fence.inRound_round, Oper.semAt_some l _ _ hd2]
  unfold Oper.wp at h
  have hdep : (Fence.wide.inRound l).depth.isSome = true → 1 ≤ n := fun hh => by
    rw [Fence.inRound_depth] at hh
    cases hh
  generalize (execOp a.eval o).run P w = r at h ⊢
  cases r with
  | ok x w' =>
    cases x with
    | value v => exact h
    | skip => exact h
    | defer d => exact h
    | enter f args => exact ⟨hdep, CallsIn.inRound l (callsIn_wide.2 h)⟩
    | row row args => exact ⟨hdep, fun c cs _ => by
        obtain ⟨v, w'', r, s⟩ := h c cs
        exact ⟨v, w'', r, by rw [fenced_inRound]; exact stepsIn_wide.2 s⟩⟩
    | _ => exact absurd h (by simp [Oper.upon])
  | halt x w' =>
    cases x with
    | panic v => exact h
    | _ => exact absurd h (by simp [Oper.upon])
theorem anyIn_of (hp : ops.all notDefer = true) (hL : ¬ LetsOut Q) : ∀ (fuel : Nat) (listed : Array Bool) (a : Act) (w : World), wpAny P .any ops Q fuel listed a w → wpAnyIn (Fence.wide.inRound l) n P .any ops Q fuel listed a w
  | 0, _, _, _, h => h
  | fuel + 1, listed, a, w, h => by
    refine ⟨h.1, fun i hi => ?_⟩
    have h2 := h.2 i hi
    unfold wpOp at h2
    unfold wpOpIn
    cases ho : ops[i]? with
    | none => rw [ho] at h2; exact anyIn_of hp hL fuel _ a w h2
    | some o =>
      rw [ho] at h2
      simp only at h2 ⊢
      have p1 : notDefer o = true := Array.all_eq_true_iff_forall_mem.1 hp o (Array.mem_of_getElem? ho)
      split
      · rename_i hw
        rw [if_pos hw] at h2
        rcases h2 with h2 | ⟨-, h2⟩
        · exact Oper.wpIn_mono (fun a w => anyIn_of hp hL fuel _ a w) (opIn_of p1 h2)
        · exact absurd h2 hL
      · rename_i hw
        rw [if_neg hw] at h2
        exact ⟨fun _ _ => trivial, anyIn_of hp hL fuel _ _ w h2⟩
theorem region_inRound {id : Nat} {a : Act} {w : World} {ls : List Oper} (k : Nat) (hm : P.follows .mixedOrders = true) (hp : ls.toArray.all notDefer = true) (hL : ¬ LetsOut Q) (hk : k ≤ ls.length) (hB : invB ls.toArray a.tmps.size = true) (htl : tailB ls.toArray k = true)
    (h : wpInw P ls.toArray w (fun A w' => wpAny P .any ls.toArray Q (ls.length - k) (headUp ls.toArray k) A w') (ls.take k) 0 a [] []) : (Code.region id ls.toArray true).wpIn (Fence.wide.inRound l) n P Q a w :=
  wpIn_region_any hm (anyIn_of hp hL _ _ _ _ (any_inw k hk hB htl h))
/-- .. what it leaves named ahead. -/
theorem region_inRoundR {id : Nat} {a : Act} {w : World} {ls : List Oper} (k : Nat) (A9 : Act) (R : World → Prop) (hm : P.follows .mixedOrders = true) (hp : ls.toArray.all notDefer = true) (hk : k ≤ ls.length) (hB : invB ls.toArray a.tmps.size = true) (htl : tailB ls.toArray k = true)
    (h : wpInw P ls.toArray w (fun A w' => wpAny P .any ls.toArray (fun e A W' => e = .normal ∧ A = A9 ∧ R W') (ls.length - k) (headUp ls.toArray k) A w') (ls.take k) 0 a [] []) (hQ : ∀ W', R W' → Q .normal A9 W') : (Code.region id ls.toArray true).wpIn (Fence.wide.inRound l) n P Q a w :=
  wpIn_mono (region_inRound k hm hp (by rintro ⟨a, w, h, -⟩; cases h) hk hB htl h) (by rintro e A W' ⟨rfl, rfl, hR⟩; exact hQ W' hR)
/-- .. but for the place of a block that it has made. -/
theorem region_inRoundU {id : Nat} {a : Act} {w : World} {ls : List Oper} (k : Nat) (U : Nat → Act) (R : World → Prop) (hm : P.follows .mixedOrders = true) (hp : ls.toArray.all notDefer = true) (hk : k ≤ ls.length) (hB : invB ls.toArray a.tmps.size = true) (htl : tailB ls.toArray k = true)
    (h : wpInw P ls.toArray w (fun A w' => wpAny P .any ls.toArray (fun e A W' => e = .normal ∧ (∃ b, A = U b) ∧ R W') (ls.length - k) (headUp ls.toArray k) A w') (ls.take k) 0 a [] []) (hQ : ∀ b W', R W' → Q .normal (U b) W') : (Code.region id ls.toArray true).wpIn (Fence.wide.inRound l) n P Q a w :=
  wpIn_mono (region_inRound k hm hp (by rintro ⟨a, w, h, -⟩; cases h) hk hB htl h) (by rintro e A W' ⟨rfl, ⟨b, rfl⟩, hR⟩; exact hQ b W' hR)
end
/-- The last operation is a call that turns what it likes. -/
theorem inw_last {P : Program} {Q : Exit → Act → World → Prop} {l : List Oper} {n k : Nat} {w0 : World} {A : Act} {o : Oper} {f : FuncId} {args : Array Value} {v : Value} {R : World → World → Prop} (hr : Region.ready .any l.toArray (headUp l.toArray n) = [n]) (hr2 : Region.ready .any l.toArray ((headUp l.toArray n).setIfInBounds n true) = []) (ho : l.toArray[n]? = some o) (hw : Region.wanted o (yielded l.toArray A.tmps) = true) (hz : l.length - n = 1)
    (h : ∀ W, (execOp A.eval o).run P W = .ok (.enter f args) W) (hc : ∀ W, Below w0.heap.size w0 W → Calls P f args W fun e w' => e = .returned v ∧ R W w') (hk : ∀ W W', Below w0.heap.size w0 W → R W W' → Q .normal (A.put o.dst v) W') :
    wpInw P l.toArray w0 (fun A w' => wpAny P .any l.toArray Q (l.length - n) (headUp l.toArray n) A w') [] k A [] [] :=
  inw_end (Q := fun A w' => wpAny P .any l.toArray Q (l.length - n) (headUp l.toArray n) A w') fun d os => by
    rw [hz]
    refine any_one hr ho fun K hK => ?_
    rw [if_pos hw]
    unfold Oper.wp
    rw [h]
    exact (hc _ (below_regrown w0 d os)).mono fun e w' he => by
      obtain ⟨rfl, hR⟩ := he
      exact hK _ _ ⟨hr2, hk _ _ (below_regrown w0 d os) hR⟩
/-- .. where the region has made a block. -/
theorem inw_last1 {P : Program} {Q : Exit → Act → World → Prop} {l : List Oper} {n k j : Nat} {w0 : World} {A : Act} {o : Oper} {f : FuncId} {args : Array Value} {v : Value} {R : World → World → Prop} {t : Tmp} {v0 : Nat → Value} {ob : Obj} (hd : dstOf l.toArray j = some t) (hr : Region.ready .any l.toArray (headUp l.toArray n) = [n]) (hr2 : Region.ready .any l.toArray ((headUp l.toArray n).setIfInBounds n true) = []) (ho : l.toArray[n]? = some o) (hw : ∀ b, Region.wanted o (yielded l.toArray (A.put (some t) (v0 b)).tmps) = true) (hz : l.length - n = 1)
    (h : ∀ b W, (execOp (A.put (some t) (v0 b)).eval o).run P W = .ok (.enter f args) W) (hc : ∀ W, Below w0.heap.size w0 W → Calls P f args W fun e w' => e = .returned v ∧ R W w') (hk : ∀ b W W', Below w0.heap.size w0 W → R W W' → Q .normal ((A.put (some t) (v0 b)).put o.dst v) W') :
    wpInw P l.toArray w0 (fun A w' => wpAny P .any l.toArray Q (l.length - n) (headUp l.toArray n) A w') [] k A [(j, fun u w' => ∃ b, u = v0 b ∧ w'.heap[b]? = some ob)] [] :=
  inw_end1k (Q := fun A w' => wpAny P .any l.toArray Q (l.length - n) (headUp l.toArray n) A w') hd fun b d os _ => by
    rw [hz]
    refine any_one hr ho fun K hK => ?_
    rw [if_pos (hw b)]
    unfold Oper.wp
    rw [h b]
    exact (hc _ (below_regrown w0 d os)).mono fun e w' he => by
      obtain ⟨rfl, hR⟩ := he
      exact hK _ _ ⟨hr2, hk b _ _ (below_regrown w0 d os) hR⟩
end Go.Proofs.YtdnkpclpcelbaaaDoor
