/- A region that draws its order and whose operations read, make blocks of their own and call: each operation shown once, from what is known of those it waits for. No program in it. -/
import Derived.Test.YtdnkpclpcelbaaaDoorNrm
import Derived.Lib.QuietBelow
import Derived.Deep.RegionHeld3
namespace Go.Proofs.YtdnkpclpcelbaaaDoor
set_option maxRecDepth 20000
set_option linter.unusedSimpArgs false
set_option linter.unusedVariables false
open Go.RowKit Go.Sort
/-- What is known of an operation's value: which it is, or what it meets in a world. -/
inductive Tk where
  | val (v : Value)
  | pr (p : Value → World → Prop)
def Tk.holds : Tk → Value → World → Prop
  | .val c, v, _ => v = c
  | .pr p, v, w => p v w
/-- It stays so when blocks are made. -/
def Tk.Stable : Tk → Prop
  | .val _ => True
  | .pr p => ∀ v w w', p v w → Below w.heap.size w w' → p v w'
theorem Tk.Stable.keep {T : Tk} (h : T.Stable) {v : Value} {w w' : World} (hv : T.holds v w) (hb : Below w.heap.size w w') : T.holds v w' := by
  cases T with
  | val c => exact hv
  | pr p => exact h v w w' hv hb
def dstOf (ops : Array Oper) (j : Nat) : Option Tmp := (ops[j]?).bind (·.dst)
def depsOf (o : Oper) : List Nat := (o.after.toList.filter fun e => Region.binds .any e).map (·.on)
/-- With values of these operations, of which so much is known, in their places. -/
def Given (ops : Array Oper) (w : World) : List (Nat × (Value → World → Prop)) → Act → (Act → Prop) → Prop
  | [], A, k => k A
  | q :: ps, A, k => ∀ u, q.2 u w → Given ops w ps (A.put (dstOf ops q.1) u) k
/-- The operation waits for that one, and looks at its value. -/
def waits (ops : Array Oper) (o : Oper) (q : Nat × (Value → World → Prop)) : Bool := (depsOf o).contains q.1 && (o.looksAt ops).any (fun t => dstOf ops q.1 == some t)
def upOK (P : Program) (T : Tk) (w : World) : Result Next → Prop
  | .ok (.value u) w' => T.holds u w' ∧ Below w.heap.size w w'
  | .ok .skip w' => T.holds undef w' ∧ Below w.heap.size w w'
  | .ok (.enter f args) w' => w' = w ∧ Calls P f args w (fun e w'' => ∃ u, e = .returned u ∧ T.holds u w'' ∧ Below w.heap.size w w'')
  | _ => False
def opOK (P : Program) (ops : Array Oper) (o : Oper) (T : Tk) (w : World) (A : Act) : Prop :=
  if Region.wanted o (yielded ops A.tmps) = true then upOK P T w ((execOp A.eval o).run P w) else T.holds undef w
/-- One operation at a time, in the order of the text: of each its value, or what is known of it. -/
def wpInv (P : Program) (ops : Array Oper) (w0 : World) (Q : Act → World → Prop) : List Oper → Nat → Act → List (Nat × (Value → World → Prop)) → Prop
  | [], _, A, Ps => ∀ d os, Given ops (grow (redrawn w0 d) os) Ps A (fun A => Q A (grow (redrawn w0 d) os))
  | o :: rest, k, A, Ps =>
    (∃ v, (∀ d os, Given ops (grow (redrawn w0 d) os) (Ps.filter (waits ops o)) A (opOK P ops o (.val v) (grow (redrawn w0 d) os))) ∧ wpInv P ops w0 Q rest (k + 1) (A.put o.dst v) Ps) ∨
    (∃ p : Value → World → Prop, (Tk.pr p).Stable ∧ (∀ d os, Given ops (grow (redrawn w0 d) os) (Ps.filter (waits ops o)) A (opOK P ops o (.pr p) (grow (redrawn w0 d) os))) ∧ wpInv P ops w0 Q rest (k + 1) A (Ps ++ [(k, p)]))
/-- What has come up so far, in one state: the values that are known, and what is known of the others. -/
structure Acc (ops : Array Oper) (a : Act) (Ts : List Tk) (i : Nat) (A : Act) (Ps : List (Nat × (Value → World → Prop))) : Prop where
  size : A.tmps.size = a.tmps.size
  defers : A.defers = a.defers
  out : ∀ t, (∀ j, j < i → dstOf ops j ≠ some t) → A.tmps[t]? = a.tmps[t]?
  vals : ∀ j, j < i → ∀ v d, Ts[j]? = some (.val v) → dstOf ops j = some d → A.tmps[d]? = some v
  prs : ∀ j, j < i → ∀ p, Ts[j]? = some (.pr p) → (j, p) ∈ Ps
  back : ∀ q ∈ Ps, q.1 < i ∧ Ts[q.1]? = some (.pr q.2)
theorem Acc.more {ops : Array Oper} {a : Act} {Ts : List Tk} {i : Nat} {A : Act} {Ps : List (Nat × (Value → World → Prop))} (h : Acc ops a Ts i A Ps) (hl : Ts.length = i) (Us : List Tk) : Acc ops a (Ts ++ Us) i A Ps :=
  ⟨h.size, h.defers, h.out, fun j hj v d hv => h.vals j hj v d (by rwa [List.getElem?_append_left (by omega)] at hv),
    fun j hj p hp => h.prs j hj p (by rwa [List.getElem?_append_left (by omega)] at hp),
    fun q hq => ⟨(h.back q hq).1, by rw [List.getElem?_append_left (by have := (h.back q hq).1; omega)]; exact (h.back q hq).2⟩⟩
/-- What is asked of the region's form. -/
def invB (ops : Array Oper) (n : Nat) : Bool :=
  Region.noSelect ops && (List.range ops.size).all fun i => match ops[i]? with
    | none => true
    | some o => (depsOf o).all (fun j => decide (j < i)) &&
      (match o.dst with
       | none => true
       | some d => decide (d < n) && (List.range i).all (fun j => dstOf ops j != some d)) &&
      (o.looksAt ops).all (fun t => (depsOf o).any (fun j => dstOf ops j == some t) || (List.range ops.size).all (fun j => dstOf ops j != some t))

def SameAt (N : Tmp → Prop) (A B : Act) : Prop := ∀ t, N t → B.tmps[t]? = A.tmps[t]?
theorem put_at {A : Act} {x : Option Tmp} {v : Value} {t : Tmp} (h : x ≠ some t) : (A.put x v).tmps[t]? = A.tmps[t]? := by
  cases x with
  | none => rfl
  | some d =>
    have hne : d ≠ t := fun e => h (by rw [e])
    simp [Act.put, Array.getElem?_setIfInBounds_ne hne]
theorem put_here {A : Act} {d : Tmp} {v : Value} (h : d < A.tmps.size) : (A.put (some d) v).tmps[d]? = some v := by
  simp [Act.put, h]
theorem put_size (A : Act) (x : Option Tmp) (v : Value) : (A.put x v).tmps.size = A.tmps.size := by
  cases x <;> simp [Act.put]
theorem put_defers (A : Act) (x : Option Tmp) (v : Value) : (A.put x v).defers = A.defers := by
  cases x <;> rfl
theorem given_use {ops : Array Oper} {w : World} {B : Act} : ∀ (ps : List (Nat × (Value → World → Prop))) (A : Act) (k : Act → Prop) (N : Tmp → Prop), SameAt N A B → A.tmps.size = B.tmps.size → Given ops w ps A k →
    (∀ q ∈ ps, ∃ u, q.2 u w ∧ ∀ d, dstOf ops q.1 = some d → B.tmps[d]? = some u) →
    ∃ A', k A' ∧ SameAt (fun t => N t ∨ ∃ q ∈ ps, dstOf ops q.1 = some t) A' B ∧ A'.defers = A.defers ∧ A'.tmps.size = B.tmps.size
  | [], A, k, N, hs, hz, h, _ => ⟨A, h, fun t ht => hs t (ht.resolve_right (fun ⟨_, hj, _⟩ => by cases hj)), rfl, hz⟩
  | q :: ps, A, k, N, hs, hz, h, hv => by
    obtain ⟨u, hu, hd⟩ := hv q (by simp)
    have h' : Given ops w ps (A.put (dstOf ops q.1) u) k := h u hu
    have hs' : SameAt (fun t => N t ∨ dstOf ops q.1 = some t) (A.put (dstOf ops q.1) u) B := fun t ht => by
      by_cases hj : dstOf ops q.1 = some t
      · rw [hd t hj, hj]
        have : t < B.tmps.size := (Array.getElem?_eq_some_iff.1 (hd t hj)).1
        exact (put_here (by rw [hz]; exact this)).symm
      · rw [put_at hj]
        exact hs t (ht.resolve_right hj)
    obtain ⟨A', hk, hS, hD, hZ⟩ := given_use ps _ k _ hs' (by rw [put_size]; exact hz) h' (fun i hi => hv i (by simp [hi]))
    refine ⟨A', hk, fun t ht => hS t ?_, by rw [hD, put_defers], hZ⟩
    rcases ht with h | ⟨i, hi, he⟩
    · exact .inl (.inl h)
    · rcases List.mem_cons.1 hi with rfl | hi
      · exact .inl (.inr he)
      · exact .inr ⟨i, hi, he⟩
theorem eval_same {N : Tmp → Prop} {A B : Act} (hs : SameAt N A B) (x : Operand) (h : ∀ t, x = .tmp t → N t) : A.eval x = B.eval x := by
  cases x with
  | tmp t =>
    have := hs t (h t rfl)
    simp [Act.eval, Array.getD_eq_getD_getElem?, this]
  | _ => rfl
theorem wpOp_of_OK {P : Program} {ops : Array Oper} {Q : Exit → Act → World → Prop} {i : Nat} {o : Oper} {T : Tk} {w : World} {N : Tmp → Prop} {A B : Act} {K : Act → World → Prop} (hi : ops[i]? = some o)
    (hsel : ∀ cs b, o.op ≠ .select cs b) (hs : SameAt N A B) (hN : ∀ t ∈ o.looksAt ops, N t) (h : opOK P ops o T w A)
    (hK : ∀ v w', T.holds v w' → Below w.heap.size w w' → K (B.put o.dst v) w') : wpOp P ops Q i K B w := by
  have he : execOp A.eval o = execOp B.eval o := execOp_congr o hsel fun x hx => eval_same hs x fun t ht => hN t (by
    subst ht
    exact List.mem_append_left _ (List.mem_filterMap.2 ⟨.tmp t, by simpa using hx, rfl⟩))
  have hw : Region.wanted o (yielded ops A.tmps) = Region.wanted o (yielded ops B.tmps) := by
    unfold Region.wanted
    cases hg : o.guard with
    | none => rfl
    | some gw =>
      obtain ⟨g, want⟩ := gw
      have hy : yielded ops A.tmps g = yielded ops B.tmps g := by
        unfold yielded
        cases ht : (ops[g]?).bind (·.dst) with
        | none => rfl
        | some t =>
          have := hs t (hN t (by simp [Oper.looksAt, hg, ht]))
          simp [this]
      simp only [hy]
  unfold opOK at h
  unfold Go.wpOp
  simp only [hi]
  rw [hw] at h
  split
  · rename_i hww
    rw [if_pos hww] at h
    refine .inl ?_
    unfold Oper.wp
    rw [he] at h
    generalize (execOp B.eval o).run P w = r at *
    cases r with
    | ok n w' =>
      cases n <;> simp only [upOK] at h <;> simp only [Oper.upon]
      case value u => exact hK _ _ h.1 h.2
      case skip => exact hK _ _ h.1 h.2
      case enter f args =>
        obtain ⟨e1, hc⟩ := h
        rw [e1]
        exact hc.mono fun e w'' ⟨u, he, hu, hb⟩ => by subst he; exact hK _ _ hu hb
    | halt x w' => exact absurd h (by simp [upOK])
  · rename_i hww
    rw [if_neg hww] at h
    exact hK _ _ h (Below.refl _ _)
theorem count_set : ∀ (l : List Bool) (i : Nat), l[i]? = some false → (l.set i true).count false + 1 = l.count false
  | [], _, h => by simp at h
  | b :: l, 0, h => by simp at h; subst h; simp
  | b :: l, i + 1, h => by
    have := count_set l i (by simpa using h)
    simp only [List.set_cons_succ, List.count_cons]
    omega
theorem count_zero : ∀ (l : List Bool), l.count false = 0 → ∀ i : Nat, l[i]? ≠ some false
  | [], _, i => by simp
  | b :: l, h, 0 => by
    cases b
    · simp at h
    · simp
  | b :: l, h, i + 1 => by
    have := count_zero l (by rw [List.count_cons] at h; omega) i
    simpa using this
theorem getD_true_false {l : Array Bool} {i : Nat} : l.getD i true = false ↔ l.toList[i]? = some false := by
  rw [Array.getElem?_toList, Array.getD_eq_getD_getElem?]
  cases h : l[i]? with
  | none => simp
  | some b => cases b <;> simp
theorem getD_false_true {l : Array Bool} {i : Nat} : l.getD i false = true ↔ l[i]? = some true := by
  rw [Array.getD_eq_getD_getElem?]
  cases h : l[i]? with
  | none => simp
  | some b => cases b <;> simp
theorem dst_apart {ops : Array Oper} {n : Nat} (hB : invB ops n = true) {i j : Nat} {d : Tmp} (hi : dstOf ops i = some d) (hj : dstOf ops j = some d) : i = j := by
  have key : ∀ i j, i < j → dstOf ops i = some d → dstOf ops j = some d → False := fun i j hij hi hj => by
    obtain ⟨o, ho, hd⟩ := Option.bind_eq_some_iff.1 hj
    have hlt : j < ops.size := (Array.getElem?_eq_some_iff.1 ho).1
    simp only [invB, Bool.and_eq_true, List.all_eq_true, List.mem_range] at hB
    have h := hB.2 j hlt
    simp only [ho, hd, Bool.and_eq_true, List.all_eq_true, List.mem_range] at h
    have := h.1.2.2 i hij
    rw [hi] at this
    simp at this
  rcases Nat.lt_trichotomy i j with h | h | h
  · exact (key i j h hi hj).elim
  · exact h
  · exact (key j i h hj hi).elim
/-- All that is known, as one list. -/
theorem wpInv_all {P : Program} {ops : Array Oper} {a : Act} {w0 : World} {Q : Act → World → Prop} (hB : invB ops a.tmps.size = true) : ∀ (l : List Oper) (Ts : List Tk) (A : Act) (Ps : List (Nat × (Value → World → Prop))),
    Acc ops a Ts Ts.length A Ps → (∀ j, l[j]? = ops[Ts.length + j]?) → wpInv P ops w0 Q l Ts.length A Ps →
    ∃ Us : List Tk, Us.length = l.length ∧ (∀ T ∈ Us, T.Stable) ∧
      (∀ i o, l[i]? = some o → ∃ T A' Ps', (Ts ++ Us)[Ts.length + i]? = some T ∧ Acc ops a (Ts ++ Us) (Ts.length + i) A' Ps' ∧ ∀ d os, Given ops (grow (redrawn w0 d) os) (Ps'.filter (waits ops o)) A' (opOK P ops o T (grow (redrawn w0 d) os))) ∧
      (∃ A' Ps', Acc ops a (Ts ++ Us) (Ts.length + l.length) A' Ps' ∧ ∀ d os, Given ops (grow (redrawn w0 d) os) Ps' A' (fun A => Q A (grow (redrawn w0 d) os)))
  | [], Ts, A, Ps, hA, _, h => ⟨[], rfl, by simp, by simp, A, Ps, by simpa using hA, h⟩
  | o :: l, Ts, A, Ps, hA, hl, h => by
    have ho : ops[Ts.length]? = some o := by simpa using (hl 0).symm
    have hdo : dstOf ops Ts.length = o.dst := by unfold dstOf; rw [ho]; rfl
    have hl' : ∀ T : Tk, ∀ j, l[j]? = ops[(Ts ++ [T]).length + j]? := fun T j => by
      have := hl (j + 1)
      rw [List.length_append, List.length_singleton, show Ts.length + 1 + j = Ts.length + (j + 1) by omega]
      simpa using this
    have fin : ∀ (T : Tk) (A2 : Act) (Ps2 : List (Nat × (Value → World → Prop))), T.Stable → (∀ d os, Given ops (grow (redrawn w0 d) os) (Ps.filter (waits ops o)) A (opOK P ops o T (grow (redrawn w0 d) os))) →
        Acc ops a (Ts ++ [T]) (Ts.length + 1) A2 Ps2 → wpInv P ops w0 Q l (Ts.length + 1) A2 Ps2 →
        ∃ Us : List Tk, Us.length = (o :: l).length ∧ (∀ T ∈ Us, T.Stable) ∧
          (∀ i o', (o :: l)[i]? = some o' → ∃ T A' Ps', (Ts ++ Us)[Ts.length + i]? = some T ∧ Acc ops a (Ts ++ Us) (Ts.length + i) A' Ps' ∧ ∀ d os, Given ops (grow (redrawn w0 d) os) (Ps'.filter (waits ops o')) A' (opOK P ops o' T (grow (redrawn w0 d) os))) ∧
          (∃ A' Ps', Acc ops a (Ts ++ Us) (Ts.length + (o :: l).length) A' Ps' ∧ ∀ d os, Given ops (grow (redrawn w0 d) os) Ps' A' (fun A => Q A (grow (redrawn w0 d) os))) := fun T A2 Ps2 hst hob hA2 hr => by
      obtain ⟨Us, hlen, hS, hO, hE⟩ := wpInv_all hB l (Ts ++ [T]) A2 Ps2 (by simpa using hA2) (hl' T) (by simpa using hr)
      rw [List.append_assoc, List.singleton_append] at hO hE
      refine ⟨T :: Us, by simp [hlen], ?_, ?_, ?_⟩
      · intro U hU
        rcases List.mem_cons.1 hU with rfl | hU
        · exact hst
        · exact hS U hU
      · intro i o' ho'
        cases i with
        | zero =>
          simp at ho'
          subst ho'
          exact ⟨T, A, Ps, by simp, by simpa using hA.more rfl (T :: Us), hob⟩
        | succ i =>
          obtain ⟨U, A', Ps', hU, hAc, hUo⟩ := hO i o' (by simpa using ho')
          have e : (Ts ++ [T]).length + i = Ts.length + (i + 1) := by simp; omega
          rw [e] at hU hAc
          exact ⟨U, A', Ps', hU, hAc, hUo⟩
      · obtain ⟨A', Ps', h1, h2⟩ := hE
        have e : (Ts ++ [T]).length + l.length = Ts.length + (o :: l).length := by simp; omega
        rw [e] at h1
        exact ⟨A', Ps', h1, h2⟩
    have hmore := fun T => hA.more rfl [T]
    unfold wpInv at h
    rcases h with ⟨v, hob, hr⟩ | ⟨p, hst, hob, hr⟩
    · refine fin (.val v) _ _ trivial hob ?_ hr
      have hm := hmore (.val v)
      refine ⟨by rw [put_size]; exact hA.size, by rw [put_defers]; exact hA.defers, fun t ht => ?_, fun j hj u d hu hd => ?_, fun j hj p hp => ?_, fun q hq => ⟨by have := (hm.back q hq).1; omega, (hm.back q hq).2⟩⟩
      · rw [put_at (fun e => ht Ts.length (by omega) (by rw [hdo]; exact e))]
        exact hA.out t fun j hj => ht j (by omega)
      · by_cases hij : j = Ts.length
        · subst hij
          rw [hdo] at hd
          rw [hd]
          have : u = v := by simpa using hu.symm
          rw [this]
          refine put_here ?_
          rw [hA.size]
          have hb := hB
          simp only [invB, Bool.and_eq_true, List.all_eq_true, List.mem_range] at hb
          have h2 := hb.2 Ts.length (Array.getElem?_eq_some_iff.1 ho).1
          simp only [ho, hd, Bool.and_eq_true, decide_eq_true_eq] at h2
          exact h2.1.2.1
        · rw [put_at (fun e => hij (dst_apart hB hd (by rw [hdo]; exact e)))]
          exact hm.vals j (by omega) u d hu hd
      · by_cases hij : j = Ts.length
        · subst hij
          simp at hp
        · exact hm.prs j (by omega) p hp
    · refine fin (.pr p) _ _ hst hob ?_ hr
      have hm := hmore (.pr p)
      refine ⟨hA.size, hA.defers, fun t ht => hA.out t fun j hj => ht j (by omega), fun j hj u d hu hd => ?_, fun j hj p' hp => ?_, fun q hq => ?_⟩
      · by_cases hij : j = Ts.length
        · subst hij
          simp at hu
        · exact hm.vals j (by omega) u d hu hd
      · by_cases hij : j = Ts.length
        · subst hij
          have : p = p' := by simpa using hp
          subst this
          simp
        · exact List.mem_append_left _ (hm.prs j (by omega) p' hp)
      · rcases List.mem_append.1 hq with h | h
        · exact ⟨by have := (hm.back q h).1; omega, (hm.back q h).2⟩
        · simp at h
          subst h
          exact ⟨by simp, by simp⟩
structure InvAt (ops : Array Oper) (Ts : List Tk) (a : Act) (w0 : World) (listed : Array Bool) (B : Act) (w : World) : Prop where
  below : Below w0.heap.size w0 w
  defers : B.defers = a.defers
  size : B.tmps.size = a.tmps.size
  len : listed.size = ops.size
  out : ∀ t, (∀ j, listed[j]? = some true → dstOf ops j ≠ some t) → B.tmps[t]? = a.tmps[t]?
  known : ∀ j, listed[j]? = some true → ∃ T u, Ts[j]? = some T ∧ T.holds u w ∧ ∀ d, dstOf ops j = some d → B.tmps[d]? = some u
theorem wpAny_of_inv {P : Program} {ops : Array Oper} {Q : Exit → Act → World → Prop} {a : Act} {w0 : World} {Ts : List Tk} (hB : invB ops a.tmps.size = true) (hst : ∀ T ∈ Ts, T.Stable)
    (hob : ∀ i o, ops[i]? = some o → ∃ T A Ps, Ts[i]? = some T ∧ Acc ops a Ts i A Ps ∧ ∀ d os, Given ops (grow (redrawn w0 d) os) (Ps.filter (waits ops o)) A (opOK P ops o T (grow (redrawn w0 d) os)))
    (hend : ∃ A Ps, Acc ops a Ts ops.size A Ps ∧ ∀ d os, Given ops (grow (redrawn w0 d) os) Ps A (fun A => Q .normal A (grow (redrawn w0 d) os))) :
    ∀ (fuel : Nat) (listed : Array Bool) (B : Act) (w : World), InvAt ops Ts a w0 listed B w → listed.toList.count false ≤ fuel → wpAny P .any ops Q fuel listed B w := by
  have hB' := hB
  simp only [invB, Bool.and_eq_true, List.all_eq_true, List.mem_range] at hB'
  obtain ⟨hsel, hops⟩ := hB'
  have hform : ∀ i o, ops[i]? = some o → (∀ j ∈ depsOf o, j < i) ∧ (∀ d, o.dst = some d → d < a.tmps.size) ∧
      (∀ t ∈ o.looksAt ops, (∃ j ∈ depsOf o, dstOf ops j = some t) ∨ ∀ j < ops.size, dstOf ops j ≠ some t) := fun i o ho => by
    have h := hops i (Array.getElem?_eq_some_iff.1 ho).1
    simp only [ho, Bool.and_eq_true, List.all_eq_true, decide_eq_true_eq] at h
    refine ⟨h.1.1, fun d hd => ?_, fun t ht => ?_⟩
    · have h2 := h.1.2
      rw [hd] at h2
      simp only [Bool.and_eq_true, decide_eq_true_eq] at h2
      exact h2.1
    · have h3 := h.2 t ht
      simp only [Bool.or_eq_true, List.any_eq_true, List.all_eq_true, List.mem_range, beq_iff_eq, bne_iff_ne, ne_eq] at h3
      exact h3
  -- all have come up
  have hfin : ∀ listed B w, InvAt ops Ts a w0 listed B w → (∀ i < ops.size, listed[i]? = some true) → Q .normal B w := fun listed B w hI hall => by
    obtain ⟨⟨d, os⟩, rfl⟩ := regrown_of_below hI.below
    obtain ⟨A, Ps, hA, hE⟩ := hend
    have hs : SameAt (fun t => B.tmps[t]? = A.tmps[t]?) A B := fun t ht => ht
    obtain ⟨A', hk, hS, hD, hZ⟩ := given_use _ A _ _ hs (by rw [hA.size, hI.size]) (hE d os) (fun q hq => by
      obtain ⟨hlt, hT⟩ := hA.back q hq
      obtain ⟨T, u, hT', hu, hd⟩ := hI.known q.1 (hall q.1 hlt)
      rw [hT] at hT'
      obtain rfl := Option.some.inj hT'
      exact ⟨u, hu, hd⟩)
    have : A' = B := by
      obtain ⟨t1, d1⟩ := A'
      obtain ⟨t2, d2⟩ := B
      have e1 : d1 = d2 := by rw [show d1 = A.defers from hD, hA.defers, show d2 = a.defers from hI.defers]
      have e2 : t1 = t2 := Array.ext_getElem? fun t => by
        refine (hS t ?_).symm
        by_cases h : ∃ j, j < ops.size ∧ dstOf ops j = some t
        · obtain ⟨j, hj, hd⟩ := h
          obtain ⟨T, u, hT, hu, hdu⟩ := hI.known j (hall j hj)
          cases T with
          | val v =>
            refine .inl ?_
            rw [hdu t hd, hA.vals j hj v t hT hd, show u = v from hu]
          | pr p => exact .inr ⟨(j, p), hA.prs j hj p hT, hd⟩
        · refine .inl ?_
          rw [hI.out t (fun j hj hd => h ⟨j, by rw [← hI.len]; exact (Array.getElem?_eq_some_iff.1 hj).1, hd⟩), hA.out t (fun j hj hd => h ⟨j, hj, hd⟩)]
      rw [e1, e2]
    rw [← this]
    exact hk
  have hstuck : ∀ listed B w, InvAt ops Ts a w0 listed B w → Region.ready .any ops listed = [] → ∀ i < ops.size, listed[i]? = some true := fun listed B w hI hr => by
    intro i
    induction i using Nat.strongRecOn with
    | ind i ih =>
      intro hi
      have hli : i < listed.size := by rw [hI.len]; exact hi
      cases hb : listed[i]? with
      | none => rw [Array.getElem?_eq_none_iff] at hb; omega
      | some b =>
        cases b with
        | true => rfl
        | false =>
          exfalso
          have ho : ops[i]? = some ops[i] := Array.getElem?_eq_getElem hi
          have : i ∈ Region.ready .any ops listed := mem_ready.2 ⟨by rw [Array.getD_eq_getD_getElem?, hb]; rfl, ops[i], ho, fun e he hbi => by
            have hd : e.on ∈ depsOf ops[i] := by
              unfold depsOf
              exact List.mem_map.2 ⟨e, List.mem_filter.2 ⟨Array.mem_toList_iff.2 he, hbi⟩, rfl⟩
            have hlt := (hform i _ ho).1 _ hd
            exact getD_false_true.2 (ih e.on hlt (by omega))⟩
          rw [hr] at this
          cases this
  intro fuel
  induction fuel with
  | zero =>
    intro listed B w hI hc
    have hall : ∀ i < ops.size, listed[i]? = some true := fun i hi => by
      have h0 := count_zero listed.toList (by omega) i
      rw [Array.getElem?_toList] at h0
      have hli : i < listed.size := by rw [hI.len]; exact hi
      rw [Array.getElem?_eq_getElem hli] at h0 ⊢
      cases hb : listed[i] with
      | true => rfl
      | false => rw [hb] at h0; exact absurd rfl h0
    refine ⟨?_, hfin listed B w hI hall⟩
    cases hr : Region.ready .any ops listed with
    | nil => rfl
    | cons i rs =>
      have hi : i ∈ Region.ready .any ops listed := by rw [hr]; simp
      obtain ⟨h0, o, ho, _⟩ := mem_ready.1 hi
      have := hall i (Array.getElem?_eq_some_iff.1 ho).1
      rw [Array.getD_eq_getD_getElem?, this] at h0
      cases h0
  | succ fuel ih =>
    intro listed B w hI hc
    refine ⟨fun hr => hfin listed B w hI (hstuck listed B w hI hr), fun i hi => ?_⟩
    obtain ⟨h0, o, ho, hall⟩ := mem_ready.1 hi
    obtain ⟨hdep, hdst, hlook⟩ := hform i o ho
    obtain ⟨T, A, Ps, hT, hA, hOb⟩ := hob i o ho
    have h0' := getD_true_false.1 h0
    have hifree : listed[i]? = some false := by rw [Array.getElem?_toList] at h0'; exact h0'
    have hli : i < listed.size := (Array.getElem?_eq_some_iff.1 hifree).1
    obtain ⟨⟨d, os⟩, rfl⟩ := regrown_of_below hI.below
    have hs : SameAt (fun t => B.tmps[t]? = A.tmps[t]?) A B := fun t ht => ht
    have hdone : ∀ j ∈ depsOf o, listed[j]? = some true := fun j hj => by
      unfold depsOf at hj
      obtain ⟨e, he, rfl⟩ := List.mem_map.1 hj
      obtain ⟨he1, he2⟩ := List.mem_filter.1 he
      exact getD_false_true.1 (hall e (Array.mem_toList_iff.1 he1) he2)
    obtain ⟨A', hk, hS, hD, hZ⟩ := given_use _ A _ _ hs (by rw [hA.size, hI.size]) (hOb d os) (fun q hq => by
      obtain ⟨hq1, hq2⟩ := List.mem_filter.1 hq
      obtain ⟨T', u, hT', hu, hd'⟩ := hI.known q.1 (hdone q.1 (by simp only [waits, Bool.and_eq_true, List.contains_iff_mem] at hq2; exact hq2.1))
      rw [(hA.back q hq1).2] at hT'
      obtain rfl := Option.some.inj hT'
      exact ⟨u, hu, hd'⟩)
    refine wpOp_of_OK ho (Region.noSelect_spec hsel i o · · ho) hS (fun t ht => ?_) hk (fun v w' hv hb => ih _ _ _ ?_ ?_)
    · rcases hlook t ht with ⟨j, hj, hd⟩ | hno
      · obtain ⟨T', u, hT', hu, hd'⟩ := hI.known j (hdone j hj)
        cases T' with
        | val v =>
          refine .inl ?_
          rw [hd' t hd, hA.vals j (hdep j hj) v t hT' hd, show u = v from hu]
        | pr p => exact .inr ⟨(j, p), List.mem_filter.2 ⟨hA.prs j (hdep j hj) p hT', by simp only [waits, Bool.and_eq_true, List.contains_iff_mem, List.any_eq_true, beq_iff_eq]; exact ⟨hj, t, ht, hd⟩⟩, hd⟩
      · refine .inl ?_
        rw [hA.out t fun j hj => hno j (Nat.lt_trans hj (Array.getElem?_eq_some_iff.1 ho).1)]
        refine hI.out t fun j hj => hno j ?_
        rw [← hI.len]
        exact (Array.getElem?_eq_some_iff.1 hj).1
    · have hdo : dstOf ops i = o.dst := by unfold dstOf; rw [ho]; rfl
      refine ⟨hI.below.trans ⟨hb.os, hb.tape, hb.output, hb.size, fun k hk => hb.block k (Nat.lt_of_lt_of_le hk hI.below.size)⟩, by rw [put_defers]; exact hI.defers, by rw [put_size]; exact hI.size, by rw [Array.size_setIfInBounds]; exact hI.len, fun t ht => ?_, fun j hj => ?_⟩
      · rw [put_at (fun e => ht i (by rw [Array.getElem?_setIfInBounds_self_of_lt hli]) (by rw [hdo]; exact e))]
        refine hI.out t fun j hj => ht j ?_
        by_cases hij : i = j
        · subst hij; rw [Array.getElem?_setIfInBounds_self_of_lt hli]
        · rw [Array.getElem?_setIfInBounds_ne hij]; exact hj
      · by_cases hij : i = j
        · subst hij
          refine ⟨T, v, hT, hv, fun d' hd' => ?_⟩
          rw [hdo] at hd'
          rw [hd']
          exact put_here (by rw [hI.size]; exact hdst d' hd')
        · rw [Array.getElem?_setIfInBounds_ne hij] at hj
          obtain ⟨T', u, hT', hu, hd'⟩ := hI.known j hj
          refine ⟨T', u, hT', (hst T' (List.mem_of_getElem? hT')).keep hu hb, fun d'' hd'' => ?_⟩
          rw [put_at (fun e => hij (dst_apart hB (by rw [hdo]; exact e) hd''))]
          exact hd' d'' hd''
    · have := count_set listed.toList i h0'
      rw [Array.toList_setIfInBounds]
      omega
/-- The rule. -/
theorem wp_region_inv {P : Program} {id : Nat} {Q : Exit → Act → World → Prop} {a : Act} {w : World} {l : List Oper} (hm : P.follows .mixedOrders = true) (hB : invB l.toArray a.tmps.size = true)
    (h : wpInv P l.toArray w (fun A w' => Q .normal A w') l 0 a []) : (Code.region id l.toArray true).wp P Q a w := by
  obtain ⟨Us, hl, hS, hO, hE⟩ := wpInv_all hB l [] a [] ⟨rfl, rfl, fun _ _ => rfl, fun j hj => by simp at hj, fun j hj => by simp at hj, fun q hq => by simp at hq⟩ (by simp) h
  simp only [List.nil_append, List.length_nil, Nat.zero_add] at hO hE
  refine wp_region_any hm (wpAny_of_inv (Ts := Us) (w0 := w) hB hS (fun i o ho => hO i o (by simpa using ho)) (by simpa using hE) _ _ _ _ ⟨?_, rfl, rfl, by simp, fun t _ => rfl, fun j hj => ?_⟩ ?_)
  · exact ⟨rfl, rfl, rfl, Nat.le_refl _, fun _ _ => rfl⟩
  · exfalso
    have := Array.mem_of_getElem? hj
    simp at this
  · exact Nat.le_trans (List.count_le_length) (by simp)
section
variable {P : Program} {ops : Array Oper} {w0 : World} {Q : Act → World → Prop} {o : Oper} {rest : List Oper} {k : Nat} {A : Act} {Ps : List (Nat × (Value → World → Prop))}
theorem mk_at (W : World) (ob : Obj) : (W.alloc ob).heap[W.heap.size]? = some ob ∧ Below W.heap.size W (W.alloc ob) :=
  ⟨by show (W.heap.push ob)[W.heap.size]? = some ob; simp, (Below.refl W.heap.size W).alloc (Nat.le_refl _) ob⟩
/-- A step that is not wanted. -/
theorem inv_skip (hf : Ps.filter (waits ops o) = []) (hw : Region.wanted o (yielded ops A.tmps) = false) (hr : wpInv P ops w0 Q rest (k + 1) (A.put o.dst undef) Ps) : wpInv P ops w0 Q (o :: rest) k A Ps :=
  .inl ⟨undef, fun d os => by rw [hf]; show opOK P ops o _ _ A; unfold opOK; rw [hw]; exact rfl, hr⟩
/-- A step that yields one and the same value in every world, and leaves it as it is. -/
theorem inv_val {v : Value} (hf : Ps.filter (waits ops o) = []) (hw : Region.wanted o (yielded ops A.tmps) = true)
    (h : ∀ d os, (execOp A.eval o).run P (grow (redrawn w0 d) os) = .ok (.value v) (grow (redrawn w0 d) os)) (hr : wpInv P ops w0 Q rest (k + 1) (A.put o.dst v) Ps) : wpInv P ops w0 Q (o :: rest) k A Ps :=
  .inl ⟨v, fun d os => by rw [hf]; show opOK P ops o _ _ A; unfold opOK; rw [if_pos hw, h]; exact ⟨rfl, Below.refl _ _⟩, hr⟩
/-- A call whose answer is one and the same in every world. -/
theorem inv_call {f : FuncId} {args : Array Value} {v : Value} (hf : Ps.filter (waits ops o) = []) (hw : Region.wanted o (yielded ops A.tmps) = true)
    (h : ∀ d os, (execOp A.eval o).run P (grow (redrawn w0 d) os) = .ok (.enter f args) (grow (redrawn w0 d) os))
    (hc : ∀ d os, Calls P f args (grow (redrawn w0 d) os) fun e w' => e = .returned v ∧ Below (grow (redrawn w0 d) os).heap.size (grow (redrawn w0 d) os) w')
    (hr : wpInv P ops w0 Q rest (k + 1) (A.put o.dst v) Ps) : wpInv P ops w0 Q (o :: rest) k A Ps :=
  .inl ⟨v, fun d os => by
    rw [hf]
    show opOK P ops o _ _ A
    unfold opOK
    rw [if_pos hw, h]
    exact ⟨rfl, (hc d os).mono fun e w' he => ⟨v, he.1, rfl, he.2⟩⟩, hr⟩
/-- A block is made. -/
theorem inv_mk (v0 : Nat → Value) (ob : Obj) (hf : Ps.filter (waits ops o) = []) (hw : Region.wanted o (yielded ops A.tmps) = true)
    (h : ∀ d os, (execOp A.eval o).run P (grow (redrawn w0 d) os) = .ok (.value (v0 (grow (redrawn w0 d) os).heap.size)) ((grow (redrawn w0 d) os).alloc ob))
    (hr : wpInv P ops w0 Q rest (k + 1) A (Ps ++ [(k, fun u w' => ∃ b, u = v0 b ∧ w'.heap[b]? = some ob)])) : wpInv P ops w0 Q (o :: rest) k A Ps :=
  .inr ⟨_, fun u w w' ⟨b, hu, hb⟩ hbe => ⟨b, hu, by rw [hbe.block b (Array.getElem?_eq_some_iff.1 hb).1]; exact hb⟩, fun d os => by
    rw [hf]
    show opOK P ops o _ _ A
    unfold opOK
    rw [if_pos hw, h]
    exact ⟨⟨_, rfl, (mk_at _ ob).1⟩, (mk_at _ ob).2⟩, hr⟩
/-- A call that takes a block which the region has made. -/
theorem inv_callp {f : FuncId} {args : Nat → Array Value} {v : Value} {j : Nat} {t : Tmp} {v0 : Nat → Value} {ob : Obj} (hf : Ps.filter (waits ops o) = [(j, fun u w' => ∃ b, u = v0 b ∧ w'.heap[b]? = some ob)]) (hd : dstOf ops j = some t)
    (hw : ∀ b, Region.wanted o (yielded ops (A.put (some t) (v0 b)).tmps) = true)
    (h : ∀ b d os, (execOp (A.put (some t) (v0 b)).eval o).run P (grow (redrawn w0 d) os) = .ok (.enter f (args b)) (grow (redrawn w0 d) os))
    (hc : ∀ b W, W.heap[b]? = some ob → Calls P f (args b) W fun e w' => e = .returned v ∧ Below W.heap.size W w')
    (hr : wpInv P ops w0 Q rest (k + 1) (A.put o.dst v) Ps) : wpInv P ops w0 Q (o :: rest) k A Ps :=
  .inl ⟨v, fun d os => by
    rw [hf]
    rintro u ⟨b, rfl, hb⟩
    show opOK P ops o _ _ (A.put (dstOf ops j) (v0 b))
    rw [hd]
    unfold opOK
    rw [if_pos (hw b), h]
    exact ⟨rfl, (hc b _ hb).mono fun e w' he => ⟨v, he.1, rfl, he.2⟩⟩, hr⟩
/-- The end: what was made stands in its places. -/
theorem inv_end (h : ∀ d os, Q A (grow (redrawn w0 d) os)) : wpInv P ops w0 Q [] k A [] := h
theorem inv_end1 {j : Nat} {t : Tmp} {v0 : Nat → Value} {ob : Obj} (hd : dstOf ops j = some t) (h : ∀ b d os, Q (A.put (some t) (v0 b)) (grow (redrawn w0 d) os)) :
    wpInv P ops w0 Q [] k A [(j, fun u w' => ∃ b, u = v0 b ∧ w'.heap[b]? = some ob)] := fun d os => by
  rintro u ⟨b, rfl, _⟩
  show Q (A.put (dstOf ops j) (v0 b)) _
  rw [hd]
  exact h b d os
theorem inv_end2 {j j' : Nat} {t t' : Tmp} {v0 v0' : Nat → Value} {ob ob' : Obj} (hd : dstOf ops j = some t) (hd' : dstOf ops j' = some t') (h : ∀ b b' d os, Q ((A.put (some t) (v0 b)).put (some t') (v0' b')) (grow (redrawn w0 d) os)) :
    wpInv P ops w0 Q [] k A [(j, fun u w' => ∃ b, u = v0 b ∧ w'.heap[b]? = some ob), (j', fun u w' => ∃ b, u = v0' b ∧ w'.heap[b]? = some ob')] := fun d os => by
  rintro u ⟨b, rfl, _⟩ u' ⟨b', rfl, _⟩
  show Q ((A.put (dstOf ops j) (v0 b)).put (dstOf ops j') (v0' b')) _
  rw [hd, hd']
  exact h b b' d os
end
end Go.Proofs.YtdnkpclpcelbaaaDoor
