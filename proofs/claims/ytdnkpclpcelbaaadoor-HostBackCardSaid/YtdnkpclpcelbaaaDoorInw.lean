/- The rule of the text before, of a region whose last operations wait for all others, and that makes variables of its own: two of them are two blocks. No program in it. -/
import Derived.Test.YtdnkpclpcelbaaaDoorInv
namespace Go.Proofs.YtdnkpclpcelbaaaDoor
set_option maxRecDepth 20000
set_option linter.unusedSimpArgs false
set_option linter.unusedVariables false
open Go.RowKit Go.Sort
abbrev PkW := Nat × (Value → World → Prop)
/-- What is known of an operation's value; 'true': it is the address of a block that it has made. -/
inductive TkW where
  | val (v : Value)
  | pr (p : Value → World → Prop) (fresh : Bool)
def TkW.tk : TkW → Tk
  | .val v => .val v
  | .pr p _ => .pr p
def TkW.Stable : TkW → Prop
  | .val _ => True
  | .pr p f => (Tk.pr p).Stable ∧ (f = true → ∀ w b, p (.pointer (some ⟨b, 0, none⟩)) w → b < w.heap.size)
theorem TkW.Stable.tk {T : TkW} (h : T.Stable) : T.tk.Stable := by
  cases T with
  | val v => exact trivial
  | pr p f => exact h.1
def Fresh (P : Program) (o : Oper) : Prop := ∀ (A : Act) (w : World), ∃ w', (execOp A.eval o).run P w = .ok (.value (.pointer (some ⟨w.heap.size, 0, none⟩))) w'
/-- The blocks that these operations have made are different ones. -/
def Apart (ops : Array Oper) (news : List Nat) (A : Act) : Prop := ∀ i ∈ news, ∀ j ∈ news, i ≠ j → ∀ d d' b b', dstOf ops i = some d → dstOf ops j = some d' → A.tmps[d]? = some (.pointer (some ⟨b, 0, none⟩)) → A.tmps[d']? = some (.pointer (some ⟨b', 0, none⟩)) → b ≠ b'
def wpInw (P : Program) (ops : Array Oper) (w0 : World) (Q : Act → World → Prop) : List Oper → Nat → Act → List PkW → List Nat → Prop
  | [], _, A, Ps, ns => ∀ d os, Given ops (grow (redrawn w0 d) os) Ps A (fun A => Apart ops ns A → Q A (grow (redrawn w0 d) os))
  | o :: rest, k, A, Ps, ns =>
    (∃ v, (∀ d os, Given ops (grow (redrawn w0 d) os) (Ps.filter (waits ops o)) A (opOK P ops o (.val v) (grow (redrawn w0 d) os))) ∧ wpInw P ops w0 Q rest (k + 1) (A.put o.dst v) Ps ns) ∨
    (∃ p f, (TkW.pr p f).Stable ∧ (f = true → Fresh P o) ∧ (∀ d os, Given ops (grow (redrawn w0 d) os) (Ps.filter (waits ops o)) A (opOK P ops o (.pr p) (grow (redrawn w0 d) os))) ∧ wpInw P ops w0 Q rest (k + 1) A (Ps ++ [(k, p)]) (if f then ns ++ [k] else ns))
/-- What has come up so far, in one state. -/
structure AccW (ops : Array Oper) (a : Act) (Ts : List TkW) (i : Nat) (A : Act) (Ps : List PkW) (ns : List Nat) : Prop where
  size : A.tmps.size = a.tmps.size
  defers : A.defers = a.defers
  out : ∀ t, (∀ j, j < i → dstOf ops j ≠ some t) → A.tmps[t]? = a.tmps[t]?
  vals : ∀ j, j < i → ∀ v d, Ts[j]? = some (.val v) → dstOf ops j = some d → A.tmps[d]? = some v
  prs : ∀ j, j < i → ∀ p f, Ts[j]? = some (.pr p f) → (j, p) ∈ Ps
  back : ∀ q ∈ Ps, q.1 < i ∧ ∃ f, Ts[q.1]? = some (.pr q.2 f)
  news : ∀ j ∈ ns, j < i ∧ ∃ p, Ts[j]? = some (.pr p true)
theorem AccW.more {ops : Array Oper} {a : Act} {Ts : List TkW} {i : Nat} {A : Act} {Ps : List PkW} {ns : List Nat} (h : AccW ops a Ts i A Ps ns) (hl : Ts.length = i) (Us : List TkW) : AccW ops a (Ts ++ Us) i A Ps ns :=
  ⟨h.size, h.defers, h.out, fun j hj v d hv => h.vals j hj v d (by rwa [List.getElem?_append_left (by omega)] at hv),
    fun j hj p f hp => h.prs j hj p f (by rwa [List.getElem?_append_left (by omega)] at hp),
    fun q hq => ⟨(h.back q hq).1, by rw [List.getElem?_append_left (by have := (h.back q hq).1; omega)]; exact (h.back q hq).2⟩,
    fun q hq => ⟨(h.news q hq).1, by rw [List.getElem?_append_left (by have := (h.news q hq).1; omega)]; exact (h.news q hq).2⟩⟩
theorem wpOp_of_OKW {P : Program} {ops : Array Oper} {Q : Exit → Act → World → Prop} {i : Nat} {o : Oper} {T : Tk} {w : World} {N : Tmp → Prop} {A B : Act} {K : Act → World → Prop} (hi : ops[i]? = some o)
    (hsel : ∀ cs b, o.op ≠ .select cs b) (hs : SameAt N A B) (hN : ∀ t ∈ o.looksAt ops, N t) (h : opOK P ops o T w A)
    (hK : ∀ v w', T.holds v w' → Below w.heap.size w w' → (Fresh P o → ∀ b, v = .pointer (some ⟨b, 0, none⟩) → b = w.heap.size) → K (B.put o.dst v) w') : wpOp P ops Q i K B w := by
  have he : execOp A.eval o = execOp B.eval o := execOp_congr o hsel fun x hx => eval_same hs x fun t ht => hN t (by
    subst ht
    exact List.mem_append_left _ (List.mem_filterMap.2 ⟨.tmp t, by simpa using hx, rfl⟩))
  have hw : Region.wanted o (yielded ops A.tmps) = Region.wanted o (yielded ops B.tmps) := by
    unfold Region.wanted
    cases hg : o.guard with
    | none => rfl
    | some gw =>
      obtain ⟨g, want⟩ := gw
      have hy : yielded ops A.tmps g = yielded ops B.tmps g := by
        unfold yielded
        cases ht : (ops[g]?).bind (·.dst) with
        | none => rfl
        | some t =>
          have := hs t (hN t (by simp [Oper.looksAt, hg, ht]))
          simp [this]
      simp only [hy]
  unfold opOK at h
  unfold Go.wpOp
  simp only [hi]
  rw [hw] at h
  split
  · rename_i hww
    rw [if_pos hww] at h
    refine .inl ?_
    unfold Oper.wp
    rw [he] at h
    have hfr : Fresh P o → ∃ w', (execOp B.eval o).run P w = .ok (.value (.pointer (some ⟨w.heap.size, 0, none⟩))) w' := fun hf => hf B w
    generalize (execOp B.eval o).run P w = r at *
    cases r with
    | ok n w' =>
      cases n <;> simp only [upOK] at h <;> simp only [Oper.upon]
      case value u =>
        refine hK _ _ h.1 h.2 (fun hf b hb => ?_)
        obtain ⟨w2, e2⟩ := hfr hf
        have e3 : u = .pointer (some ⟨w.heap.size, 0, none⟩) := by cases e2; rfl
        rw [hb] at e3
        cases e3
        rfl
      case skip =>
        refine hK _ _ h.1 h.2 (fun hf => ?_)
        obtain ⟨w2, e2⟩ := hfr hf
        cases e2
      case enter f args =>
        obtain ⟨e1, hc⟩ := h
        rw [e1]
        exact hc.mono fun e w'' ⟨u, he, hu, hb⟩ => by
          subst he
          refine hK _ _ hu hb (fun hf => ?_)
          obtain ⟨w2, e2⟩ := hfr hf
          cases e2
    | halt x w' => exact absurd h (by simp [upOK])
  · rename_i hww
    rw [if_neg hww] at h
    exact hK _ _ h (Below.refl _ _) (fun _ b hb => by cases hb)
/-- All that is known, as one list. -/
theorem wpInw_all {P : Program} {ops : Array Oper} {a : Act} {w0 : World} {Q : Act → World → Prop} (hB : invB ops a.tmps.size = true) : ∀ (l : List Oper) (Ts : List TkW) (A : Act) (Ps : List PkW) (ns : List Nat),
    AccW ops a Ts Ts.length A Ps ns → (∀ j, j < l.length → l[j]? = ops[Ts.length + j]?) → wpInw P ops w0 Q l Ts.length A Ps ns →
    ∃ Us : List TkW, Us.length = l.length ∧ (∀ T ∈ Us, T.Stable) ∧
      (∀ i o', l[i]? = some o' → ∃ T A' Ps' ns', (Ts ++ Us)[Ts.length + i]? = some T ∧ AccW ops a (Ts ++ Us) (Ts.length + i) A' Ps' ns' ∧ (∀ p, T = .pr p true → Fresh P o') ∧ ∀ d os, Given ops (grow (redrawn w0 d) os) (Ps'.filter (waits ops o')) A' (opOK P ops o' T.tk (grow (redrawn w0 d) os))) ∧
      (∃ A' Ps' ns', AccW ops a (Ts ++ Us) (Ts.length + l.length) A' Ps' ns' ∧ ∀ d os, Given ops (grow (redrawn w0 d) os) Ps' A' (fun A => Apart ops ns' A → Q A (grow (redrawn w0 d) os)))
  | [], Ts, A, Ps, ns, hA, _, h => ⟨[], rfl, by simp, by simp, A, Ps, ns, by simpa using hA, h⟩
  | o :: l, Ts, A, Ps, ns, hA, hl, h => by
    have ho : ops[Ts.length]? = some o := by simpa using (hl 0 (by simp)).symm
    have hdo : dstOf ops Ts.length = o.dst := by unfold dstOf; rw [ho]; rfl
    have hl' : ∀ T : TkW, ∀ j, j < l.length → l[j]? = ops[(Ts ++ [T]).length + j]? := fun T j hj => by
      have := hl (j + 1) (by simpa using hj)
      rw [List.length_append, List.length_singleton, show Ts.length + 1 + j = Ts.length + (j + 1) by omega]
      simpa using this
    have fin : ∀ (T : TkW) (A2 : Act) (Ps2 : List PkW) (ns2 : List Nat), T.Stable → (∀ p, T = .pr p true → Fresh P o) → (∀ d os, Given ops (grow (redrawn w0 d) os) (Ps.filter (waits ops o)) A (opOK P ops o T.tk (grow (redrawn w0 d) os))) →
        AccW ops a (Ts ++ [T]) (Ts.length + 1) A2 Ps2 ns2 → wpInw P ops w0 Q l (Ts.length + 1) A2 Ps2 ns2 →
        ∃ Us : List TkW, Us.length = (o :: l).length ∧ (∀ T ∈ Us, T.Stable) ∧
          (∀ i o', (o :: l)[i]? = some o' → ∃ T A' Ps' ns', (Ts ++ Us)[Ts.length + i]? = some T ∧ AccW ops a (Ts ++ Us) (Ts.length + i) A' Ps' ns' ∧ (∀ p, T = .pr p true → Fresh P o') ∧ ∀ d os, Given ops (grow (redrawn w0 d) os) (Ps'.filter (waits ops o')) A' (opOK P ops o' T.tk (grow (redrawn w0 d) os))) ∧
          (∃ A' Ps' ns', AccW ops a (Ts ++ Us) (Ts.length + (o :: l).length) A' Ps' ns' ∧ ∀ d os, Given ops (grow (redrawn w0 d) os) Ps' A' (fun A => Apart ops ns' A → Q A (grow (redrawn w0 d) os))) := fun T A2 Ps2 ns2 hst hfr hob hA2 hr => by
      obtain ⟨Us, hlen, hS, hO, hE⟩ := wpInw_all hB l (Ts ++ [T]) A2 Ps2 ns2 (by simpa using hA2) (hl' T) (by simpa using hr)
      rw [List.append_assoc, List.singleton_append] at hO hE
      refine ⟨T :: Us, by simp [hlen], ?_, ?_, ?_⟩
      · intro U hU
        rcases List.mem_cons.1 hU with rfl | hU
        · exact hst
        · exact hS U hU
      · intro i o' ho'
        cases i with
        | zero =>
          simp at ho'
          subst ho'
          exact ⟨T, A, Ps, ns, by simp, by simpa using hA.more rfl (T :: Us), hfr, hob⟩
        | succ i =>
          obtain ⟨U, A', Ps', ns', hU, hAc, hUo⟩ := hO i o' (by simpa using ho')
          have e : (Ts ++ [T]).length + i = Ts.length + (i + 1) := by simp; omega
          rw [e] at hU hAc
          exact ⟨U, A', Ps', ns', hU, hAc, hUo⟩
      · obtain ⟨A', Ps', ns', h1, h2⟩ := hE
        have e : (Ts ++ [T]).length + l.length = Ts.length + (o :: l).length := by simp; omega
        rw [e] at h1
        exact ⟨A', Ps', ns', h1, h2⟩
    have hmore := fun T => hA.more rfl [T]
    unfold wpInw at h
    rcases h with ⟨v, hob, hr⟩ | ⟨p, f, hst, hfr, hob, hr⟩
    · refine fin (.val v) _ _ _ trivial (fun p hp => by cases hp) hob ?_ hr
      have hm := hmore (.val v)
      refine ⟨by rw [put_size]; exact hA.size, by rw [put_defers]; exact hA.defers, fun t ht => ?_, fun j hj u d hu hd => ?_, fun j hj p f hp => ?_, fun q hq => ⟨by have := (hm.back q hq).1; omega, (hm.back q hq).2⟩, fun q hq => ⟨by have := (hm.news q hq).1; omega, (hm.news q hq).2⟩⟩
      · rw [put_at (fun e => ht Ts.length (by omega) (by rw [hdo]; exact e))]
        exact hA.out t fun j hj => ht j (by omega)
      · by_cases hij : j = Ts.length
        · subst hij
          rw [hdo] at hd
          rw [hd]
          have : u = v := by simpa using hu.symm
          rw [this]
          refine put_here ?_
          rw [hA.size]
          have hb := hB
          simp only [invB, Bool.and_eq_true, List.all_eq_true, List.mem_range] at hb
          have h2 := hb.2 Ts.length (Array.getElem?_eq_some_iff.1 ho).1
          simp only [ho, hd, Bool.and_eq_true, decide_eq_true_eq] at h2
          exact h2.1.2.1
        · rw [put_at (fun e => hij (dst_apart hB hd (by rw [hdo]; exact e)))]
          exact hm.vals j (by omega) u d hu hd
      · by_cases hij : j = Ts.length
        · subst hij
          simp at hp
        · exact hm.prs j (by omega) p f hp
    · refine fin (.pr p f) _ _ _ hst (fun p' hp => hfr (by cases hp; rfl)) hob ?_ hr
      have hm := hmore (.pr p f)
      refine ⟨hA.size, hA.defers, fun t ht => hA.out t fun j hj => ht j (by omega), fun j hj u d hu hd => ?_, fun j hj p' f' hp => ?_, fun q hq => ?_, fun q hq => ?_⟩
      · by_cases hij : j = Ts.length
        · subst hij
          simp at hu
        · exact hm.vals j (by omega) u d hu hd
      · by_cases hij : j = Ts.length
        · subst hij
          have : p = p' := by
            have h2 : TkW.pr p f = TkW.pr p' f' := by simpa using hp
            cases h2
            rfl
          subst this
          simp
        · exact List.mem_append_left _ (hm.prs j (by omega) p' f' hp)
      · rcases List.mem_append.1 hq with h | h
        · exact ⟨by have := (hm.back q h).1; omega, (hm.back q h).2⟩
        · simp at h
          subst h
          exact ⟨by simp, f, by simp⟩
      · cases f with
        | false =>
          have hq' : q ∈ ns := by simpa using hq
          exact ⟨by have := (hm.news q hq').1; omega, (hm.news q hq').2⟩
        | true =>
          have hq' : q ∈ ns ∨ q = Ts.length := by simpa using hq
          rcases hq' with h | h
          · exact ⟨by have := (hm.news q h).1; omega, (hm.news q h).2⟩
          · subst h
            exact ⟨by simp, p, by simp⟩
structure InwAt (ops : Array Oper) (Ts : List TkW) (n : Nat) (a : Act) (w0 : World) (listed : Array Bool) (B : Act) (w : World) : Prop where
  below : Below w0.heap.size w0 w
  defers : B.defers = a.defers
  size : B.tmps.size = a.tmps.size
  len : listed.size = ops.size
  head : ∀ j, listed[j]? = some true → j < n
  down : ∀ (j : Nat) (o : Oper), listed[j]? = some true → ops[j]? = some o → ∀ e ∈ depsOf o, listed[e]? = some true
  out : ∀ t, (∀ j, listed[j]? = some true → dstOf ops j ≠ some t) → B.tmps[t]? = a.tmps[t]?
  known : ∀ j, listed[j]? = some true → ∃ T u, Ts[j]? = some T ∧ T.tk.holds u w ∧ ∀ d, dstOf ops j = some d → B.tmps[d]? = some u
  apart : ∀ i j, i ≠ j → listed[i]? = some true → listed[j]? = some true → ∀ p p', Ts[i]? = some (.pr p true) → Ts[j]? = some (.pr p' true) → ∀ d d' b b', dstOf ops i = some d → dstOf ops j = some d' → B.tmps[d]? = some (.pointer (some ⟨b, 0, none⟩)) → B.tmps[d']? = some (.pointer (some ⟨b', 0, none⟩)) → b ≠ b'
/-- The first n have come up, and no others. -/
def headUp (ops : Array Oper) (n : Nat) : Array Bool := (List.replicate n true ++ List.replicate (ops.size - n) false).toArray
/-- Whom they wait for, whom those wait for, .. -/
def upto (ops : Array Oper) : Nat → List Nat → List Nat
  | 0, S => S
  | m + 1, S => upto ops m (S ++ S.flatMap fun j => match ops[j]? with | some o => depsOf o | none => []).eraseDups
theorem upto_all {ops : Array Oper} {p : Nat → Prop} (h : ∀ (j : Nat) (o : Oper), p j → ops[j]? = some o → ∀ e ∈ depsOf o, p e) : ∀ (m : Nat) (S : List Nat), (∀ j ∈ S, p j) → ∀ j ∈ upto ops m S, p j
  | 0, _, hS => hS
  | m + 1, S, hS => upto_all h m _ fun j hj => by
    rcases List.mem_append.1 (List.mem_eraseDups.1 hj) with hj | hj
    · exact hS j hj
    · obtain ⟨i, hi, hj⟩ := List.mem_flatMap.1 hj
      cases ho : ops[i]? with
      | none => rw [ho] at hj; cases hj
      | some o => rw [ho] at hj; exact h i o (hS i hi) ho j hj
/-- What stands behind the first n waits for all of them. -/
def tailB (ops : Array Oper) (n : Nat) : Bool := (List.range ops.size).all fun i => decide (i < n) || match ops[i]? with
  | none => true
  | some o => (List.range n).all fun j => (upto ops 8 (depsOf o)).contains j
theorem wpAny_of_inw {P : Program} {ops : Array Oper} {Q : Exit → Act → World → Prop} {a : Act} {w0 : World} {Ts : List TkW} {n : Nat} (hB : invB ops a.tmps.size = true) (hn : n ≤ ops.size) (htl : tailB ops n = true) (hst : ∀ T ∈ Ts, T.Stable)
    (hob : ∀ i o, i < n → ops[i]? = some o → ∃ T A Ps ns, Ts[i]? = some T ∧ AccW ops a Ts i A Ps ns ∧ (∀ p, T = .pr p true → Fresh P o) ∧ ∀ d os, Given ops (grow (redrawn w0 d) os) (Ps.filter (waits ops o)) A (opOK P ops o T.tk (grow (redrawn w0 d) os)))
    (hend : ∃ A Ps ns, AccW ops a Ts n A Ps ns ∧ ∀ d os, Given ops (grow (redrawn w0 d) os) Ps A (fun A => Apart ops ns A → wpAny P .any ops Q (ops.size - n) (headUp ops n) A (grow (redrawn w0 d) os))) :
    ∀ (fuel : Nat) (listed : Array Bool) (B : Act) (w : World), InwAt ops Ts n a w0 listed B w → listed.toList.count false = fuel → wpAny P .any ops Q fuel listed B w := by
  have hB' := hB
  simp only [invB, Bool.and_eq_true, List.all_eq_true, List.mem_range] at hB'
  obtain ⟨hsel, hops⟩ := hB'
  have hform : ∀ i o, ops[i]? = some o → (∀ j ∈ depsOf o, j < i) ∧ (∀ d, o.dst = some d → d < a.tmps.size) ∧
      (∀ t ∈ o.looksAt ops, (∃ j ∈ depsOf o, dstOf ops j = some t) ∨ ∀ j < ops.size, dstOf ops j ≠ some t) := fun i o ho => by
    have h := hops i (Array.getElem?_eq_some_iff.1 ho).1
    simp only [ho, Bool.and_eq_true, List.all_eq_true, decide_eq_true_eq] at h
    refine ⟨h.1.1, fun d hd => ?_, fun t ht => ?_⟩
    · have h2 := h.1.2
      rw [hd] at h2
      simp only [Bool.and_eq_true, decide_eq_true_eq] at h2
      exact h2.1
    · have h3 := h.2 t ht
      simp only [Bool.or_eq_true, List.any_eq_true, List.all_eq_true, List.mem_range, beq_iff_eq, bne_iff_ne, ne_eq] at h3
      exact h3
  have htail : ∀ i o, n ≤ i → ops[i]? = some o → ∀ j < n, j ∈ upto ops 8 (depsOf o) := fun i o hi ho j hj => by
    simp only [tailB, List.all_eq_true, List.mem_range, Bool.or_eq_true, decide_eq_true_eq] at htl
    rcases htl i (Array.getElem?_eq_some_iff.1 ho).1 with h | h
    · omega
    · simp only [ho, List.all_eq_true, List.mem_range] at h
      simpa using h j hj
  -- all of the first n have come up
  have hfin : ∀ listed B w, InwAt ops Ts n a w0 listed B w → (∀ i < n, listed[i]? = some true) → wpAny P .any ops Q (listed.toList.count false) listed B w := fun listed B w hI hall => by
    have hlist : listed = headUp ops n := by
      apply Array.ext_getElem?
      intro k
      unfold headUp
      show listed[k]? = (List.replicate n true ++ List.replicate (ops.size - n) false).toArray[k]?
      rw [show (List.replicate n true ++ List.replicate (ops.size - n) false).toArray[k]? = (List.replicate n true ++ List.replicate (ops.size - n) false)[k]? by simp only [List.getElem?_toArray]]
      by_cases hk : k < n
      · rw [hall k hk, List.getElem?_append_left (by simpa using hk), List.getElem?_replicate, if_pos hk]
      · rw [List.getElem?_append_right (by simpa using (by omega : n ≤ k)), List.length_replicate, List.getElem?_replicate]
        by_cases hk2 : k < ops.size
        · rw [if_pos (by omega)]
          have hkl : k < listed.size := by rw [hI.len]; exact hk2
          rw [Array.getElem?_eq_getElem hkl]
          cases hb : listed[k] with
          | false => rfl
          | true =>
            have := hI.head k (by rw [Array.getElem?_eq_getElem hkl, hb])
            omega
        · rw [if_neg (by omega), Array.getElem?_eq_none (by rw [hI.len]; omega)]
    have hcnt : (headUp ops n).toList.count false = ops.size - n := by
      unfold headUp
      simp [List.count_append, List.count_replicate]
    obtain ⟨⟨d, os⟩, rfl⟩ := regrown_of_below hI.below
    obtain ⟨A, Ps, ns, hA, hE⟩ := hend
    have hs : SameAt (fun t => B.tmps[t]? = A.tmps[t]?) A B := fun t ht => ht
    obtain ⟨A', hk, hS, hD, hZ⟩ := given_use _ A _ _ hs (by rw [hA.size, hI.size]) (hE d os) (fun q hq => by
      obtain ⟨hlt, f, hT⟩ := hA.back q hq
      obtain ⟨T, u, hT', hu, hd⟩ := hI.known q.1 (hall q.1 hlt)
      rw [hT] at hT'
      obtain rfl := Option.some.inj hT'
      exact ⟨u, hu, hd⟩)
    have hAB : A' = B := by
      obtain ⟨t1, d1⟩ := A'
      obtain ⟨t2, d2⟩ := B
      have e1 : d1 = d2 := by rw [show d1 = A.defers from hD, hA.defers, show d2 = a.defers from hI.defers]
      have e2 : t1 = t2 := Array.ext_getElem? fun t => by
        refine (hS t ?_).symm
        by_cases h : ∃ j, j < n ∧ dstOf ops j = some t
        · obtain ⟨j, hj, hd⟩ := h
          obtain ⟨T, u, hT, hu, hdu⟩ := hI.known j (hall j hj)
          cases T with
          | val v =>
            refine .inl ?_
            rw [hdu t hd, hA.vals j hj v t hT hd, show u = v from hu]
          | pr p f => exact .inr ⟨(j, p), hA.prs j hj p f hT, hd⟩
        · refine .inl ?_
          rw [hI.out t (fun j hj hd => h ⟨j, hI.head j hj, hd⟩), hA.out t (fun j hj hd => h ⟨j, hj, hd⟩)]
      rw [e1, e2]
    rw [hAB] at hk
    have h2 := hk (fun i hi j hj hij d d' b b' hd hd' hb hb' => by
      obtain ⟨hi1, p, hp⟩ := hA.news i hi
      obtain ⟨hj1, p', hp'⟩ := hA.news j hj
      exact hI.apart i j hij (hall i hi1) (hall j hj1) p p' hp hp' d d' b b' hd hd' hb hb')
    rw [hlist, hcnt]
    exact h2
  have hstuck : ∀ listed B w, InwAt ops Ts n a w0 listed B w → Region.ready .any ops listed = [] → ∀ i < n, listed[i]? = some true := fun listed B w hI hr => by
    intro i
    induction i using Nat.strongRecOn with
    | ind i ih =>
      intro hi
      have hio : i < ops.size := by omega
      have hli : i < listed.size := by rw [hI.len]; exact hio
      cases hb : listed[i]? with
      | none => rw [Array.getElem?_eq_none_iff] at hb; omega
      | some b =>
        cases b with
        | true => rfl
        | false =>
          exfalso
          have ho : ops[i]? = some ops[i] := Array.getElem?_eq_getElem hio
          have : i ∈ Region.ready .any ops listed := mem_ready.2 ⟨by rw [Array.getD_eq_getD_getElem?, hb]; rfl, ops[i], ho, fun e he hbi => by
            have hd : e.on ∈ depsOf ops[i] := by
              unfold depsOf
              exact List.mem_map.2 ⟨e, List.mem_filter.2 ⟨Array.mem_toList_iff.2 he, hbi⟩, rfl⟩
            have hlt := (hform i _ ho).1 _ hd
            exact getD_false_true.2 (ih e.on hlt (by omega))⟩
          rw [hr] at this
          cases this
  intro fuel
  induction fuel with
  | zero =>
    intro listed B w hI hc
    have hall : ∀ i < n, listed[i]? = some true := fun i hi => by
      have h0 := count_zero listed.toList (by omega) i
      rw [Array.getElem?_toList] at h0
      have hli : i < listed.size := by rw [hI.len]; omega
      rw [Array.getElem?_eq_getElem hli] at h0 ⊢
      cases hb : listed[i] with
      | true => rfl
      | false => rw [hb] at h0; exact absurd rfl h0
    have := hfin listed B w hI hall
    rwa [hc] at this
  | succ fuel ih =>
    intro listed B w hI hc
    by_cases hall : ∀ i < n, listed[i]? = some true
    · have := hfin listed B w hI hall
      rwa [hc] at this
    refine ⟨fun hr => absurd (hstuck listed B w hI hr) hall, fun i hi => ?_⟩
    obtain ⟨h0, o, ho, hup⟩ := mem_ready.1 hi
    have hdone : ∀ j ∈ depsOf o, listed[j]? = some true := fun j hj => by
      unfold depsOf at hj
      obtain ⟨e, he, rfl⟩ := List.mem_map.1 hj
      obtain ⟨he1, he2⟩ := List.mem_filter.1 he
      exact getD_false_true.1 (hup e (Array.mem_toList_iff.1 he1) he2)
    have hin : i < n := by
      rcases Nat.lt_or_ge i n with h | h
      · exact h
      · exact absurd (fun j hj => upto_all (p := fun j => listed[j]? = some true) hI.down 8 _ hdone j (htail i o h ho j hj)) hall
    obtain ⟨hdep, hdst, hlook⟩ := hform i o ho
    obtain ⟨T, A, Ps, ns, hT, hA, hFr, hOb⟩ := hob i o hin ho
    have h0' := getD_true_false.1 h0
    have hifree : listed[i]? = some false := by rw [Array.getElem?_toList] at h0'; exact h0'
    have hli : i < listed.size := (Array.getElem?_eq_some_iff.1 hifree).1
    obtain ⟨⟨d, os⟩, rfl⟩ := regrown_of_below hI.below
    have hs : SameAt (fun t => B.tmps[t]? = A.tmps[t]?) A B := fun t ht => ht
    obtain ⟨A', hk, hS, hD, hZ⟩ := given_use _ A _ _ hs (by rw [hA.size, hI.size]) (hOb d os) (fun q hq => by
      obtain ⟨hq1, hq2⟩ := List.mem_filter.1 hq
      obtain ⟨T', u, hT', hu, hd'⟩ := hI.known q.1 (hdone q.1 (by simp only [waits, Bool.and_eq_true, List.contains_iff_mem] at hq2; exact hq2.1))
      obtain ⟨_, f, hT2⟩ := hA.back q hq1
      rw [hT2] at hT'
      obtain rfl := Option.some.inj hT'
      exact ⟨u, hu, hd'⟩)
    refine wpOp_of_OKW ho (Region.noSelect_spec hsel i o · · ho) hS (fun t ht => ?_) hk (fun v w' hv hb hfv => ih _ _ _ ?_ ?_)
    · rcases hlook t ht with ⟨j, hj, hd⟩ | hno
      · obtain ⟨T', u, hT', hu, hd'⟩ := hI.known j (hdone j hj)
        cases T' with
        | val v =>
          refine .inl ?_
          rw [hd' t hd, hA.vals j (hdep j hj) v t hT' hd, show u = v from hu]
        | pr p f => exact .inr ⟨(j, p), List.mem_filter.2 ⟨hA.prs j (hdep j hj) p f hT', by simp only [waits, Bool.and_eq_true, List.contains_iff_mem, List.any_eq_true, beq_iff_eq]; exact ⟨hj, t, ht, hd⟩⟩, hd⟩
      · refine .inl ?_
        rw [hA.out t fun j hj => hno j (Nat.lt_trans hj (Array.getElem?_eq_some_iff.1 ho).1)]
        refine hI.out t fun j hj => hno j ?_
        rw [← hI.len]
        exact (Array.getElem?_eq_some_iff.1 hj).1
    · have hdo : dstOf ops i = o.dst := by unfold dstOf; rw [ho]; rfl
      have hold : ∀ j, (listed.setIfInBounds i true)[j]? = some true → i ≠ j → listed[j]? = some true := fun j hj hij => by
        rw [Array.getElem?_setIfInBounds_ne hij] at hj; exact hj
      have hput : ∀ j d, dstOf ops j = some d → i ≠ j → (B.put o.dst v).tmps[d]? = B.tmps[d]? := fun j d hd hij =>
        put_at (fun e => hij (dst_apart hB (by rw [hdo]; exact e) hd))
      refine ⟨hI.below.trans ⟨hb.os, hb.tape, hb.output, hb.size, fun k hk => hb.block k (Nat.lt_of_lt_of_le hk hI.below.size)⟩, by rw [put_defers]; exact hI.defers, by rw [put_size]; exact hI.size, by rw [Array.size_setIfInBounds]; exact hI.len, fun j hj => ?_, fun j o' hj ho' e he => ?_, fun t ht => ?_, fun j hj => ?_, ?_⟩
      · by_cases hij : i = j
        · omega
        · exact hI.head j (hold j hj hij)
      · have hup2 : ∀ e, listed[e]? = some true → (listed.setIfInBounds i true)[e]? = some true := fun e he => by
          by_cases hie : i = e
          · subst hie; rw [Array.getElem?_setIfInBounds_self_of_lt hli]
          · rw [Array.getElem?_setIfInBounds_ne hie]; exact he
        by_cases hij : i = j
        · subst hij
          rw [ho] at ho'
          obtain rfl := Option.some.inj ho'
          exact hup2 e (hdone e he)
        · exact hup2 e (hI.down j o' (hold j hj hij) ho' e he)
      · rw [put_at (fun e => ht i (by rw [Array.getElem?_setIfInBounds_self_of_lt hli]) (by rw [hdo]; exact e))]
        refine hI.out t fun j hj => ht j ?_
        by_cases hij : i = j
        · subst hij; rw [Array.getElem?_setIfInBounds_self_of_lt hli]
        · rw [Array.getElem?_setIfInBounds_ne hij]; exact hj
      · by_cases hij : i = j
        · subst hij
          refine ⟨T, v, hT, hv, fun d' hd' => ?_⟩
          rw [hdo] at hd'
          rw [hd']
          exact put_here (by rw [hI.size]; exact hdst d' hd')
        · obtain ⟨T', u, hT', hu, hd'⟩ := hI.known j (hold j hj hij)
          refine ⟨T', u, hT', (hst T' (List.mem_of_getElem? hT')).tk.keep hu hb, fun d'' hd'' => ?_⟩
          rw [hput j d'' hd'' hij]
          exact hd' d'' hd''
      · -- a block that is made now is another than those that were made
        have one : ∀ j, i ≠ j → listed[j]? = some true → ∀ p p', Ts[i]? = some (.pr p true) → Ts[j]? = some (.pr p' true) → ∀ d d' b b', dstOf ops i = some d → dstOf ops j = some d' → (B.put o.dst v).tmps[d]? = some (.pointer (some ⟨b, 0, none⟩)) → (B.put o.dst v).tmps[d']? = some (.pointer (some ⟨b', 0, none⟩)) → b' < b := fun j hij hj p p' hp hp' d d' b b' hd hd' hb1 hb2 => by
          rw [hdo] at hd
          rw [hd, put_here (by rw [hI.size]; exact hdst d hd)] at hb1
          rw [hput j d' hd' hij] at hb2
          have hTp : T = .pr p true := Option.some.inj (hT.symm.trans hp)
          have hbw := hfv (hFr p hTp) b (Option.some.inj hb1)
          obtain ⟨T', u, hT', hu, hdu⟩ := hI.known j hj
          rw [hp'] at hT'
          obtain rfl := Option.some.inj hT'
          rw [hdu d' hd'] at hb2
          rw [Option.some.inj hb2] at hu
          have := (hst _ (List.mem_of_getElem? hp')).2 rfl _ _ hu
          omega
        intro i' j' hne hi' hj' p p' hp hp' d d' b b' hd hd' hb1 hb2
        by_cases hii : i = i'
        · subst hii
          have := one j' hne (hold j' hj' hne) p p' hp hp' d d' b b' hd hd' hb1 hb2
          omega
        · by_cases hjj : i = j'
          · subst hjj
            have := one i' hii (hold i' hi' hii) p' p hp' hp d' d b' b hd' hd hb2 hb1
            omega
          · rw [hput i' d hd hii] at hb1
            rw [hput j' d' hd' hjj] at hb2
            exact hI.apart i' j' hne (hold i' hi' hii) (hold j' hj' hjj) p p' hp hp' d d' b b' hd hd' hb1 hb2
    · have := count_set listed.toList i h0'
      rw [Array.toList_setIfInBounds]
      omega
/-- The rule: the first operations each once; what waits for all of them, behind it, in whatever order. -/
theorem wp_region_inw {P : Program} {id : Nat} {Q : Exit → Act → World → Prop} {a : Act} {w : World} {l : List Oper} (n : Nat) (hm : P.follows .mixedOrders = true) (hn : n ≤ l.length) (hB : invB l.toArray a.tmps.size = true) (htl : tailB l.toArray n = true)
    (h : wpInw P l.toArray w (fun A w' => wpAny P .any l.toArray Q (l.length - n) (headUp l.toArray n) A w') (l.take n) 0 a [] []) : (Code.region id l.toArray true).wp P Q a w := by
  obtain ⟨Us, hl, hS, hO, hE⟩ := wpInw_all hB (l.take n) [] a [] [] ⟨rfl, rfl, fun _ _ => rfl, fun j hj => by simp at hj, fun j hj => by simp at hj, fun q hq => by simp at hq, fun q hq => by simp at hq⟩ (fun j hj => by
    have hj' : j < n := by rw [List.length_take] at hj; omega
    rw [List.getElem?_take_of_lt hj']
    simp) h
  simp only [List.nil_append, List.length_nil, Nat.zero_add] at hO hE
  · have hln : (l.take n).length = n := by rw [List.length_take]; omega
    rw [hln] at hE
    refine wp_region_any hm (wpAny_of_inw (Ts := Us) (w0 := w) (n := n) hB (by simpa using hn) htl hS (fun i o hi ho => hO i o (by rw [List.getElem?_take_of_lt hi]; simpa using ho)) (by simpa using hE) _ _ _ _ ⟨?_, rfl, rfl, by simp, fun j hj => ?_, fun j _ hj => ?_, fun t _ => rfl, fun j hj => ?_, fun i j _ hi => ?_⟩ ?_)
    · exact ⟨rfl, rfl, rfl, Nat.le_refl _, fun _ _ => rfl⟩
    · exfalso
      have := Array.mem_of_getElem? hj
      simp at this
    · exfalso
      have := Array.mem_of_getElem? hj
      simp at this
    · exfalso
      have := Array.mem_of_getElem? hj
      simp at this
    · exfalso
      have := Array.mem_of_getElem? hi
      simp at this
    · simp
section
variable {P : Program} {ops : Array Oper} {w0 : World} {Q : Act → World → Prop} {o : Oper} {rest : List Oper} {k : Nat} {A : Act} {Ps : List PkW} {ns : List Nat}
theorem inw_skip (hf : Ps.filter (waits ops o) = []) (hw : Region.wanted o (yielded ops A.tmps) = false) (hr : wpInw P ops w0 Q rest (k + 1) (A.put o.dst undef) Ps ns) : wpInw P ops w0 Q (o :: rest) k A Ps ns :=
  .inl ⟨undef, fun d os => by rw [hf]; show opOK P ops o _ _ A; unfold opOK; rw [hw]; exact rfl, hr⟩
theorem inw_val {v : Value} (hf : Ps.filter (waits ops o) = []) (hw : Region.wanted o (yielded ops A.tmps) = true)
    (h : ∀ d os, (execOp A.eval o).run P (grow (redrawn w0 d) os) = .ok (.value v) (grow (redrawn w0 d) os)) (hr : wpInw P ops w0 Q rest (k + 1) (A.put o.dst v) Ps ns) : wpInw P ops w0 Q (o :: rest) k A Ps ns :=
  .inl ⟨v, fun d os => by rw [hf]; show opOK P ops o _ _ A; unfold opOK; rw [if_pos hw, h]; exact ⟨rfl, Below.refl _ _⟩, hr⟩
theorem inw_call {f : FuncId} {args : Array Value} {v : Value} (hf : Ps.filter (waits ops o) = []) (hw : Region.wanted o (yielded ops A.tmps) = true)
    (h : ∀ d os, (execOp A.eval o).run P (grow (redrawn w0 d) os) = .ok (.enter f args) (grow (redrawn w0 d) os))
    (hc : ∀ d os, Calls P f args (grow (redrawn w0 d) os) fun e w' => e = .returned v ∧ Below (grow (redrawn w0 d) os).heap.size (grow (redrawn w0 d) os) w')
    (hr : wpInw P ops w0 Q rest (k + 1) (A.put o.dst v) Ps ns) : wpInw P ops w0 Q (o :: rest) k A Ps ns :=
  .inl ⟨v, fun d os => by
    rw [hf]
    show opOK P ops o _ _ A
    unfold opOK
    rw [if_pos hw, h]
    exact ⟨rfl, (hc d os).mono fun e w' he => ⟨v, he.1, rfl, he.2⟩⟩, hr⟩
/-- A variable is made. -/
theorem inw_new (ob : Obj) (hf : Ps.filter (waits ops o) = []) (hw : Region.wanted o (yielded ops A.tmps) = true)
    (h : ∀ (A : Act) (w : World), (execOp A.eval o).run P w = .ok (.value (.pointer (some ⟨w.heap.size, 0, none⟩))) (w.alloc ob))
    (hr : wpInw P ops w0 Q rest (k + 1) A (Ps ++ [(k, fun u w' => ∃ b, u = .pointer (some ⟨b, 0, none⟩) ∧ w0.heap.size ≤ b ∧ w'.heap[b]? = some ob)]) (ns ++ [k])) : wpInw P ops w0 Q (o :: rest) k A Ps ns :=
  .inr ⟨_, true, ⟨fun u w w' ⟨b, hu, hl, hb⟩ hbe => ⟨b, hu, hl, by rw [hbe.block b (Array.getElem?_eq_some_iff.1 hb).1]; exact hb⟩, fun _ w b ⟨b', he, _, hb⟩ => by
      cases he
      exact (Array.getElem?_eq_some_iff.1 hb).1⟩, fun _ A w => ⟨_, h A w⟩, fun d os => by
    rw [hf]
    show opOK P ops o _ _ A
    unfold opOK
    rw [if_pos hw, h]
    exact ⟨⟨_, rfl, (below_regrown w0 d os).size, (mk_at _ ob).1⟩, (mk_at _ ob).2⟩, hr⟩
/-- A block is made. -/
theorem inw_mk (v0 : Nat → Value) (ob : Obj) (hf : Ps.filter (waits ops o) = []) (hw : Region.wanted o (yielded ops A.tmps) = true)
    (h : ∀ d os, (execOp A.eval o).run P (grow (redrawn w0 d) os) = .ok (.value (v0 (grow (redrawn w0 d) os).heap.size)) ((grow (redrawn w0 d) os).alloc ob))
    (hr : wpInw P ops w0 Q rest (k + 1) A (Ps ++ [(k, fun u w' => ∃ b, u = v0 b ∧ w'.heap[b]? = some ob)]) ns) : wpInw P ops w0 Q (o :: rest) k A Ps ns :=
  .inr ⟨_, false, ⟨fun u w w' ⟨b, hu, hb⟩ hbe => ⟨b, hu, by rw [hbe.block b (Array.getElem?_eq_some_iff.1 hb).1]; exact hb⟩, fun h => nomatch h⟩, (fun h => nomatch h), fun d os => by
    rw [hf]
    show opOK P ops o _ _ A
    unfold opOK
    rw [if_pos hw, h]
    exact ⟨⟨_, rfl, (mk_at _ ob).1⟩, (mk_at _ ob).2⟩, hr⟩
/-- A call that takes a block which the region has made. -/
theorem inw_callp {f : FuncId} {args : Nat → Array Value} {v : Value} {j : Nat} {t : Tmp} {v0 : Nat → Value} {ob : Obj} (hf : Ps.filter (waits ops o) = [(j, fun u w' => ∃ b, u = v0 b ∧ w'.heap[b]? = some ob)]) (hd : dstOf ops j = some t)
    (hw : ∀ b, Region.wanted o (yielded ops (A.put (some t) (v0 b)).tmps) = true)
    (h : ∀ b d os, (execOp (A.put (some t) (v0 b)).eval o).run P (grow (redrawn w0 d) os) = .ok (.enter f (args b)) (grow (redrawn w0 d) os))
    (hc : ∀ b W, W.heap[b]? = some ob → Calls P f (args b) W fun e w' => e = .returned v ∧ Below W.heap.size W w')
    (hr : wpInw P ops w0 Q rest (k + 1) (A.put o.dst v) Ps ns) : wpInw P ops w0 Q (o :: rest) k A Ps ns :=
  .inl ⟨v, fun d os => by
    rw [hf]
    rintro u ⟨b, rfl, hb⟩
    show opOK P ops o _ _ (A.put (dstOf ops j) (v0 b))
    rw [hd]
    unfold opOK
    rw [if_pos (hw b), h]
    exact ⟨rfl, (hc b _ hb).mono fun e w' he => ⟨v, he.1, rfl, he.2⟩⟩, hr⟩
/-- .. the end: three blocks made. -/
theorem inw_end3 {j1 j2 j3 : Nat} {t1 t2 t3 : Tmp} {v1 v2 v3 : Nat → Value} {o1 o2 o3 : Obj} (h1 : dstOf ops j1 = some t1) (h2 : dstOf ops j2 = some t2) (h3 : dstOf ops j3 = some t3)
    (h : ∀ b1 b2 b3 d os, Q (((A.put (some t1) (v1 b1)).put (some t2) (v2 b2)).put (some t3) (v3 b3)) (grow (redrawn w0 d) os)) :
    wpInw P ops w0 Q [] k A [(j1, fun u w' => ∃ b, u = v1 b ∧ w'.heap[b]? = some o1), (j2, fun u w' => ∃ b, u = v2 b ∧ w'.heap[b]? = some o2), (j3, fun u w' => ∃ b, u = v3 b ∧ w'.heap[b]? = some o3)] [] := fun d os => by
  rintro u1 ⟨b1, rfl, _⟩ u2 ⟨b2, rfl, _⟩ u3 ⟨b3, rfl, _⟩ _
  show Q (((A.put (dstOf ops j1) (v1 b1)).put (dstOf ops j2) (v2 b2)).put (dstOf ops j3) (v3 b3)) _
  rw [h1, h2, h3]
  exact h b1 b2 b3 d os
/-- The end of the first operations: one block made, and what it holds. -/
theorem inw_end1k {j1 : Nat} {t1 : Tmp} {v1 : Nat → Value} {o1 : Obj} (h1 : dstOf ops j1 = some t1)
    (h : ∀ b1 d os, (grow (redrawn w0 d) os).heap[b1]? = some o1 → Q (A.put (some t1) (v1 b1)) (grow (redrawn w0 d) os)) :
    wpInw P ops w0 Q [] k A [(j1, fun u w' => ∃ b, u = v1 b ∧ w'.heap[b]? = some o1)] [] := fun d os => by
  rintro u1 ⟨b1, rfl, hb⟩ _
  show Q (A.put (dstOf ops j1) (v1 b1)) _
  rw [h1]
  exact h b1 d os hb
/-- .. the end: four blocks made. -/
theorem inw_end4 {j1 j2 j3 j4 : Nat} {t1 t2 t3 t4 : Tmp} {v1 v2 v3 v4 : Nat → Value} {o1 o2 o3 o4 : Obj} (h1 : dstOf ops j1 = some t1) (h2 : dstOf ops j2 = some t2) (h3 : dstOf ops j3 = some t3) (h4 : dstOf ops j4 = some t4)
    (h : ∀ b1 b2 b3 b4 d os, Q ((((A.put (some t1) (v1 b1)).put (some t2) (v2 b2)).put (some t3) (v3 b3)).put (some t4) (v4 b4)) (grow (redrawn w0 d) os)) :
    wpInw P ops w0 Q [] k A [(j1, fun u w' => ∃ b, u = v1 b ∧ w'.heap[b]? = some o1), (j2, fun u w' => ∃ b, u = v2 b ∧ w'.heap[b]? = some o2), (j3, fun u w' => ∃ b, u = v3 b ∧ w'.heap[b]? = some o3), (j4, fun u w' => ∃ b, u = v4 b ∧ w'.heap[b]? = some o4)] [] := fun d os => by
  rintro u1 ⟨b1, rfl, _⟩ u2 ⟨b2, rfl, _⟩ u3 ⟨b3, rfl, _⟩ u4 ⟨b4, rfl, _⟩ _
  show Q ((((A.put (dstOf ops j1) (v1 b1)).put (dstOf ops j2) (v2 b2)).put (dstOf ops j3) (v3 b3)).put (dstOf ops j4) (v4 b4)) _
  rw [h1, h2, h3, h4]
  exact h b1 b2 b3 b4 d os
/-- The end of the first ones: nothing made. -/
theorem inw_end (h : ∀ d os, Q A (grow (redrawn w0 d) os)) : wpInw P ops w0 Q [] k A [] [] := fun d os _ => h d os
/-- .. two variables made. -/
theorem inw_end2 {j j' : Nat} (t t' : Tmp) {ob ob' : Obj} (hj : j ≠ j') (hd : dstOf ops j = some t) (hd' : dstOf ops j' = some t') (ht : t < A.tmps.size) (ht' : t' < A.tmps.size) (hne : t ≠ t')
    (h : ∀ b b' d os, b ≠ b' → w0.heap.size ≤ b → w0.heap.size ≤ b' → (grow (redrawn w0 d) os).heap[b]? = some ob → (grow (redrawn w0 d) os).heap[b']? = some ob' → Q ((A.put (some t) (.pointer (some ⟨b, 0, none⟩))).put (some t') (.pointer (some ⟨b', 0, none⟩))) (grow (redrawn w0 d) os)) :
    wpInw P ops w0 Q [] k A [(j, fun u w' => ∃ b, u = .pointer (some ⟨b, 0, none⟩) ∧ w0.heap.size ≤ b ∧ w'.heap[b]? = some ob), (j', fun u w' => ∃ b, u = .pointer (some ⟨b, 0, none⟩) ∧ w0.heap.size ≤ b ∧ w'.heap[b]? = some ob')] [j, j'] := fun d os => by
  rintro u ⟨b, rfl, hl, hb⟩ u' ⟨b', rfl, hl', hb'⟩
  show Apart ops [j, j'] ((A.put (dstOf ops j) _).put (dstOf ops j') _) → Q ((A.put (dstOf ops j) _).put (dstOf ops j') _) _
  rw [hd, hd']
  intro hap
  refine h b b' d os (hap j (by simp) j' (by simp) hj t t' b b' hd hd' ?_ ?_) hl hl' hb hb'
  · rw [put_at (fun e => hne (Option.some.inj e).symm)]
    exact put_here ht
  · exact put_here (by rw [put_size]; exact ht')
end
section
variable {P : Program} {ops : Array Oper} {Q : Exit → Act → World → Prop} {md : Region.Mode}
/-- One alone may come up. -/
theorem any_one {i : Nat} {o : Oper} {fuel : Nat} {listed : Array Bool} {a : Act} {w : World} (hr : Region.ready md ops listed = [i]) (ho : ops[i]? = some o)
    (h : ∀ K : Act → World → Prop, (∀ a w, wpAny P md ops Q fuel (listed.setIfInBounds i true) a w → K a w) → if Region.wanted o (yielded ops a.tmps) = true then o.wp P a w K Q else K (a.put o.dst undef) w) : wpAny P md ops Q (fuel + 1) listed a w := by
  refine ⟨fun h0 => (by rw [h0] at hr; cases hr), fun j hj => ?_⟩
  rw [hr] at hj
  obtain rfl : j = i := by simpa using hj
  have h2 := h _ (fun _ _ h => h)
  unfold wpOp
  simp only [ho]
  split
  · rename_i hw
    rw [if_pos hw] at h2
    exact .inl h2
  · rename_i hw
    rw [if_neg hw] at h2
    exact h2
end
end Go.Proofs.YtdnkpclpcelbaaaDoor
