/- The rule of the text before, of a region one of whose first operations may also come behind the last ones: it takes a part of a value, and nothing that the last ones do changes it. No program in it. -/
import Derived.Test.YtdnkpclpcelbaaaDoorInw
namespace Go.Proofs.YtdnkpclpcelbaaaDoor
set_option maxRecDepth 20000
set_option linter.unusedSimpArgs false
set_option linter.unusedVariables false
open Go.RowKit Go.Sort
/-- What it comes to doesn't hang on the world. -/
def Steady (P : Program) (o : Oper) : Prop := ∀ (B : Act) (W : World), (∃ v, ∀ W', (execOp B.eval o).run P W' = .ok (.value v) W') ∨ ∃ x, (execOp B.eval o).run P W = .halt x W
theorem steady_extract {P : Program} {o : Oper} {x : Operand} {i : Nat} (ho : o.op = .extract x i) : Steady P o := fun B W => by
  unfold execOp
  simp only [ho, Instr.extract]
  cases B.eval x with
  | tuple vs =>
    cases h : vs[i]? with
    | some v => exact .inl ⟨v, fun W' => by simp [h, Sem.run_bind, Sem.run_pure]⟩
    | none => exact .inr ⟨_, by simp [h, Sem.run_bind, stuck]; rfl⟩
  | _ => exact .inr ⟨_, by simp [Sem.run_bind, stuck]; rfl⟩
/-- What stands behind the first n waits for all of them but one. -/
def tailE (ops : Array Oper) (n e : Nat) : Bool := (List.range ops.size).all fun i => decide (i < n) || match ops[i]? with
  | none => true
  | some o => (List.range n).all fun j => j == e || (upto ops 5 (depsOf o)).contains j
theorem wpAny_of_inz {P : Program} {ops : Array Oper} {Q0 : Exit → Act → World → Prop} {e : Nat} {oe : Oper} (hoe : ops[e]? = some oe) (hge : oe.guard = none) (hse : Steady P oe) {n : Nat} (hfe : Region.free .any ops (headUp ops n) e = true) {a : Act} {w0 : World} {Ts : List TkW} (hen : e < n) (hB : invB ops a.tmps.size = true) (hn : n ≤ ops.size) (htl : tailE ops n e = true) (hst : ∀ T ∈ Ts, T.Stable)
    (hob : ∀ i o, i < n → ops[i]? = some o → ∃ T A Ps ns, Ts[i]? = some T ∧ AccW ops a Ts i A Ps ns ∧ (∀ p, T = .pr p true → Fresh P o) ∧ ∀ d os, Given ops (grow (redrawn w0 d) os) (Ps.filter (waits ops o)) A (opOK P ops o T.tk (grow (redrawn w0 d) os)))
    (hend : ∃ A Ps ns, AccW ops a Ts n A Ps ns ∧ ∀ d os, Given ops (grow (redrawn w0 d) os) Ps A (fun A => Apart ops ns A → wpAny P .any ops (NoPanic Q0) (ops.size - n) (headUp ops n) A (grow (redrawn w0 d) os))) :
    ∀ (fuel : Nat) (listed : Array Bool) (B : Act) (w : World), InwAt ops Ts n a w0 listed B w → listed.toList.count false = fuel → wpAny P .any ops (NoPanic Q0) fuel listed B w := by
  have hB' := hB
  simp only [invB, Bool.and_eq_true, List.all_eq_true, List.mem_range] at hB'
  obtain ⟨hsel, hops⟩ := hB'
  have hform : ∀ i o, ops[i]? = some o → (∀ j ∈ depsOf o, j < i) ∧ (∀ d, o.dst = some d → d < a.tmps.size) ∧
      (∀ t ∈ o.looksAt ops, (∃ j ∈ depsOf o, dstOf ops j = some t) ∨ ∀ j < ops.size, dstOf ops j ≠ some t) := fun i o ho => by
    have h := hops i (Array.getElem?_eq_some_iff.1 ho).1
    simp only [ho, Bool.and_eq_true, List.all_eq_true, decide_eq_true_eq] at h
    refine ⟨h.1.1, fun d hd => ?_, fun t ht => ?_⟩
    · have h2 := h.1.2
      rw [hd] at h2
      simp only [Bool.and_eq_true, decide_eq_true_eq] at h2
      exact h2.1
    · have h3 := h.2 t ht
      simp only [Bool.or_eq_true, List.any_eq_true, List.all_eq_true, List.mem_range, beq_iff_eq, bne_iff_ne, ne_eq] at h3
      exact h3
  have htail : ∀ i o, n ≤ i → ops[i]? = some o → ∀ j < n, j ≠ e → j ∈ upto ops 5 (depsOf o) := fun i o hi ho j hj hje => by
    simp only [tailE, List.all_eq_true, List.mem_range, Bool.or_eq_true, decide_eq_true_eq] at htl
    rcases htl i (Array.getElem?_eq_some_iff.1 ho).1 with h | h
    · omega
    · simp only [ho, List.all_eq_true, List.mem_range, Bool.or_eq_true, beq_iff_eq] at h
      rcases h j hj with h | h
      · exact absurd h hje
      · simpa using h
  -- all of the first n have come up
  have hfin : ∀ listed B w, InwAt ops Ts n a w0 listed B w → (∀ i < n, listed[i]? = some true) → wpAny P .any ops (NoPanic Q0) (listed.toList.count false) listed B w := fun listed B w hI hall => by
    have hlist : listed = headUp ops n := by
      apply Array.ext_getElem?
      intro k
      unfold headUp
      show listed[k]? = (List.replicate n true ++ List.replicate (ops.size - n) false).toArray[k]?
      rw [show (List.replicate n true ++ List.replicate (ops.size - n) false).toArray[k]? = (List.replicate n true ++ List.replicate (ops.size - n) false)[k]? by simp only [List.getElem?_toArray]]
      by_cases hk : k < n
      · rw [hall k hk, List.getElem?_append_left (by simpa using hk), List.getElem?_replicate, if_pos hk]
      · rw [List.getElem?_append_right (by simpa using (by omega : n ≤ k)), List.length_replicate, List.getElem?_replicate]
        by_cases hk2 : k < ops.size
        · rw [if_pos (by omega)]
          have hkl : k < listed.size := by rw [hI.len]; exact hk2
          rw [Array.getElem?_eq_getElem hkl]
          cases hb : listed[k] with
          | false => rfl
          | true =>
            have := hI.head k (by rw [Array.getElem?_eq_getElem hkl, hb])
            omega
        · rw [if_neg (by omega), Array.getElem?_eq_none (by rw [hI.len]; omega)]
    have hcnt : (headUp ops n).toList.count false = ops.size - n := by
      unfold headUp
      simp [List.count_append, List.count_replicate]
    obtain ⟨⟨d, os⟩, rfl⟩ := regrown_of_below hI.below
    obtain ⟨A, Ps, ns, hA, hE⟩ := hend
    have hs : SameAt (fun t => B.tmps[t]? = A.tmps[t]?) A B := fun t ht => ht
    obtain ⟨A', hk, hS, hD, hZ⟩ := given_use _ A _ _ hs (by rw [hA.size, hI.size]) (hE d os) (fun q hq => by
      obtain ⟨hlt, f, hT⟩ := hA.back q hq
      obtain ⟨T, u, hT', hu, hd⟩ := hI.known q.1 (hall q.1 hlt)
      rw [hT] at hT'
      obtain rfl := Option.some.inj hT'
      exact ⟨u, hu, hd⟩)
    have hAB : A' = B := by
      obtain ⟨t1, d1⟩ := A'
      obtain ⟨t2, d2⟩ := B
      have e1 : d1 = d2 := by rw [show d1 = A.defers from hD, hA.defers, show d2 = a.defers from hI.defers]
      have e2 : t1 = t2 := Array.ext_getElem? fun t => by
        refine (hS t ?_).symm
        by_cases h : ∃ j, j < n ∧ dstOf ops j = some t
        · obtain ⟨j, hj, hd⟩ := h
          obtain ⟨T, u, hT, hu, hdu⟩ := hI.known j (hall j hj)
          cases T with
          | val v =>
            refine .inl ?_
            rw [hdu t hd, hA.vals j hj v t hT hd, show u = v from hu]
          | pr p f => exact .inr ⟨(j, p), hA.prs j hj p f hT, hd⟩
        · refine .inl ?_
          rw [hI.out t (fun j hj hd => h ⟨j, hI.head j hj, hd⟩), hA.out t (fun j hj hd => h ⟨j, hj, hd⟩)]
      rw [e1, e2]
    rw [hAB] at hk
    have h2 := hk (fun i hi j hj hij d d' b b' hd hd' hb hb' => by
      obtain ⟨hi1, p, hp⟩ := hA.news i hi
      obtain ⟨hj1, p', hp'⟩ := hA.news j hj
      exact hI.apart i j hij (hall i hi1) (hall j hj1) p p' hp hp' d d' b b' hd hd' hb hb')
    rw [hlist, hcnt]
    exact h2
  have hstuck : ∀ listed B w, InwAt ops Ts n a w0 listed B w → Region.ready .any ops listed = [] → ∀ i < n, listed[i]? = some true := fun listed B w hI hr => by
    intro i
    induction i using Nat.strongRecOn with
    | ind i ih =>
      intro hi
      have hio : i < ops.size := by omega
      have hli : i < listed.size := by rw [hI.len]; exact hio
      cases hb : listed[i]? with
      | none => rw [Array.getElem?_eq_none_iff] at hb; omega
      | some b =>
        cases b with
        | true => rfl
        | false =>
          exfalso
          have ho : ops[i]? = some ops[i] := Array.getElem?_eq_getElem hio
          have : i ∈ Region.ready .any ops listed := mem_ready.2 ⟨by rw [Array.getD_eq_getD_getElem?, hb]; rfl, ops[i], ho, fun e he hbi => by
            have hd : e.on ∈ depsOf ops[i] := by
              unfold depsOf
              exact List.mem_map.2 ⟨e, List.mem_filter.2 ⟨Array.mem_toList_iff.2 he, hbi⟩, rfl⟩
            have hlt := (hform i _ ho).1 _ hd
            exact getD_false_true.2 (ih e.on hlt (by omega))⟩
          rw [hr] at this
          cases this
  intro fuel
  induction fuel with
  | zero =>
    intro listed B w hI hc
    have hall : ∀ i < n, listed[i]? = some true := fun i hi => by
      have h0 := count_zero listed.toList (by omega) i
      rw [Array.getElem?_toList] at h0
      have hli : i < listed.size := by rw [hI.len]; omega
      rw [Array.getElem?_eq_getElem hli] at h0 ⊢
      cases hb : listed[i] with
      | true => rfl
      | false => rw [hb] at h0; exact absurd rfl h0
    have := hfin listed B w hI hall
    rwa [hc] at this
  | succ fuel ih =>
    intro listed B w hI hc
    by_cases hall : ∀ i < n, listed[i]? = some true
    · have := hfin listed B w hI hall
      rwa [hc] at this
    have hmain : ∀ i o, i ∈ Region.ready .any ops listed → ops[i]? = some o → i < n → ∃ T A', opOK P ops o T w A' ∧ SameAt (fun t => t ∈ o.looksAt ops) A' B ∧ (∀ v w', T.holds v w' → Below w.heap.size w w' → (Fresh P o → ∀ b, v = .pointer (some ⟨b, 0, none⟩) → b = w.heap.size) → wpAny P .any ops (NoPanic Q0) fuel (listed.setIfInBounds i true) (B.put o.dst v) w') := by
      intro i o hi ho hin
      obtain ⟨h0, o', ho', hup⟩ := mem_ready.1 hi
      obtain rfl : o' = o := by rw [ho] at ho'; exact (Option.some.inj ho').symm
      have hdone : ∀ j ∈ depsOf o', listed[j]? = some true := fun j hj => by
        unfold depsOf at hj
        obtain ⟨e, he, rfl⟩ := List.mem_map.1 hj
        obtain ⟨he1, he2⟩ := List.mem_filter.1 he
        exact getD_false_true.1 (hup e (Array.mem_toList_iff.1 he1) he2)
      obtain ⟨hdep, hdst, hlook⟩ := hform i o' ho
      obtain ⟨T, A, Ps, ns, hT, hA, hFr, hOb⟩ := hob i o' hin ho
      have h0' := getD_true_false.1 h0
      have hifree : listed[i]? = some false := by rw [Array.getElem?_toList] at h0'; exact h0'
      have hli : i < listed.size := (Array.getElem?_eq_some_iff.1 hifree).1
      obtain ⟨⟨d, os⟩, rfl⟩ := regrown_of_below hI.below
      have hs : SameAt (fun t => B.tmps[t]? = A.tmps[t]?) A B := fun t ht => ht
      obtain ⟨A', hk, hS, hD, hZ⟩ := given_use _ A _ _ hs (by rw [hA.size, hI.size]) (hOb d os) (fun q hq => by
        obtain ⟨hq1, hq2⟩ := List.mem_filter.1 hq
        obtain ⟨T', u, hT', hu, hd'⟩ := hI.known q.1 (hdone q.1 (by simp only [waits, Bool.and_eq_true, List.contains_iff_mem] at hq2; exact hq2.1))
        obtain ⟨_, f, hT2⟩ := hA.back q hq1
        rw [hT2] at hT'
        obtain rfl := Option.some.inj hT'
        exact ⟨u, hu, hd'⟩)
      have hNS : ∀ t ∈ o'.looksAt ops, (B.tmps[t]? = A.tmps[t]?) ∨ ∃ q ∈ Ps.filter (waits ops o'), dstOf ops q.1 = some t := fun t ht => by
        rcases hlook t ht with ⟨j, hj, hd⟩ | hno
        · obtain ⟨T', u, hT', hu, hd'⟩ := hI.known j (hdone j hj)
          cases T' with
          | val v =>
            refine .inl ?_
            rw [hd' t hd, hA.vals j (hdep j hj) v t hT' hd, show u = v from hu]
          | pr p f => exact .inr ⟨(j, p), List.mem_filter.2 ⟨hA.prs j (hdep j hj) p f hT', by simp only [waits, Bool.and_eq_true, List.contains_iff_mem, List.any_eq_true, beq_iff_eq]; exact ⟨hj, t, ht, hd⟩⟩, hd⟩
        · refine .inl ?_
          rw [hA.out t fun j hj => hno j (Nat.lt_trans hj (Array.getElem?_eq_some_iff.1 ho).1)]
          refine hI.out t fun j hj => hno j ?_
          rw [← hI.len]
          exact (Array.getElem?_eq_some_iff.1 hj).1
      refine ⟨T.tk, A', hk, fun t ht => hS t (hNS t ht), fun v w' hv hb hfv => ih _ _ _ ?_ ?_⟩
      · have hdo : dstOf ops i = o'.dst := by unfold dstOf; rw [ho]; rfl
        have hold : ∀ j, (listed.setIfInBounds i true)[j]? = some true → i ≠ j → listed[j]? = some true := fun j hj hij => by
          rw [Array.getElem?_setIfInBounds_ne hij] at hj; exact hj
        have hput : ∀ j d, dstOf ops j = some d → i ≠ j → (B.put o'.dst v).tmps[d]? = B.tmps[d]? := fun j d hd hij =>
          put_at (fun e => hij (dst_apart hB (by rw [hdo]; exact e) hd))
        refine ⟨hI.below.trans ⟨hb.os, hb.tape, hb.output, hb.size, fun k hk => hb.block k (Nat.lt_of_lt_of_le hk hI.below.size)⟩, by rw [put_defers]; exact hI.defers, by rw [put_size]; exact hI.size, by rw [Array.size_setIfInBounds]; exact hI.len, fun j hj => ?_, fun j o' hj ho' e he => ?_, fun t ht => ?_, fun j hj => ?_, ?_⟩
        · by_cases hij : i = j
          · omega
          · exact hI.head j (hold j hj hij)
        · have hup2 : ∀ e, listed[e]? = some true → (listed.setIfInBounds i true)[e]? = some true := fun e he => by
            by_cases hie : i = e
            · subst hie; rw [Array.getElem?_setIfInBounds_self_of_lt hli]
            · rw [Array.getElem?_setIfInBounds_ne hie]; exact he
          by_cases hij : i = j
          · subst hij
            rw [ho] at ho'
            obtain rfl := Option.some.inj ho'
            exact hup2 e (hdone e he)
          · exact hup2 e (hI.down j o' (hold j hj hij) ho' e he)
        · rw [put_at (fun e => ht i (by rw [Array.getElem?_setIfInBounds_self_of_lt hli]) (by rw [hdo]; exact e))]
          refine hI.out t fun j hj => ht j ?_
          by_cases hij : i = j
          · subst hij; rw [Array.getElem?_setIfInBounds_self_of_lt hli]
          · rw [Array.getElem?_setIfInBounds_ne hij]; exact hj
        · by_cases hij : i = j
          · subst hij
            refine ⟨T, v, hT, hv, fun d' hd' => ?_⟩
            rw [hdo] at hd'
            rw [hd']
            exact put_here (by rw [hI.size]; exact hdst d' hd')
          · obtain ⟨T', u, hT', hu, hd'⟩ := hI.known j (hold j hj hij)
            refine ⟨T', u, hT', (hst T' (List.mem_of_getElem? hT')).tk.keep hu hb, fun d'' hd'' => ?_⟩
            rw [hput j d'' hd'' hij]
            exact hd' d'' hd''
        · -- a block that is made now is another than those that were made
          have one : ∀ j, i ≠ j → listed[j]? = some true → ∀ p p', Ts[i]? = some (.pr p true) → Ts[j]? = some (.pr p' true) → ∀ d d' b b', dstOf ops i = some d → dstOf ops j = some d' → (B.put o'.dst v).tmps[d]? = some (.pointer (some ⟨b, 0, none⟩)) → (B.put o'.dst v).tmps[d']? = some (.pointer (some ⟨b', 0, none⟩)) → b' < b := fun j hij hj p p' hp hp' d d' b b' hd hd' hb1 hb2 => by
            rw [hdo] at hd
            rw [hd, put_here (by rw [hI.size]; exact hdst d hd)] at hb1
            rw [hput j d' hd' hij] at hb2
            have hTp : T = .pr p true := Option.some.inj (hT.symm.trans hp)
            have hbw := hfv (hFr p hTp) b (Option.some.inj hb1)
            obtain ⟨T', u, hT', hu, hdu⟩ := hI.known j hj
            rw [hp'] at hT'
            obtain rfl := Option.some.inj hT'
            rw [hdu d' hd'] at hb2
            rw [Option.some.inj hb2] at hu
            have := (hst _ (List.mem_of_getElem? hp')).2 rfl _ _ hu
            omega
          intro i' j' hne hi' hj' p p' hp hp' d d' b b' hd hd' hb1 hb2
          by_cases hii : i = i'
          · subst hii
            have := one j' hne (hold j' hj' hne) p p' hp hp' d d' b b' hd hd' hb1 hb2
            omega
          · by_cases hjj : i = j'
            · subst hjj
              have := one i' hii (hold i' hi' hii) p' p hp' hp d' d b' b hd' hd hb2 hb1
              omega
            · rw [hput i' d hd hii] at hb1
              rw [hput j' d' hd' hjj] at hb2
              exact hI.apart i' j' hne (hold i' hi' hii) (hold j' hj' hjj) p p' hp hp' d d' b b' hd hd' hb1 hb2
      · have := count_set listed.toList i h0'
        rw [Array.toList_setIfInBounds]
        omega
    by_cases hE : ∀ i < n, i ≠ e → listed[i]? = some true
    · have hne : listed[e]? ≠ some true := fun h => hall fun i hi => by
        by_cases hie : i = e
        · rw [hie]; exact h
        · exact hE i hi hie
      have heo : e < ops.size := (Array.getElem?_eq_some_iff.1 hoe).1
      have hle : e < listed.size := by rw [hI.len]; exact heo
      have hfl : listed[e]? = some false := by
        rw [Array.getElem?_eq_getElem hle] at hne ⊢
        cases hb : listed[e] with
        | false => rfl
        | true => rw [hb] at hne; exact absurd rfl hne
      have hre : e ∈ Region.ready .any ops listed := mem_ready.2 ⟨by rw [Array.getD_eq_getD_getElem?, hfl]; rfl, oe, hoe, fun x hx hbi => by
        have hd : x.on ∈ depsOf oe := by
          unfold depsOf
          exact List.mem_map.2 ⟨x, List.mem_filter.2 ⟨Array.mem_toList_iff.2 hx, hbi⟩, rfl⟩
        have hlt := (hform e _ hoe).1 _ hd
        exact getD_false_true.2 (hE x.on (by omega) (by omega))⟩
      obtain ⟨T, A', hOK, hSm, hgo⟩ := hmain e oe hre hoe hen
      have hex : execOp A'.eval oe = execOp B.eval oe := execOp_congr oe (Region.noSelect_spec hsel e oe · · hoe) fun x hx => eval_same hSm x fun t ht => by
        subst ht
        exact List.mem_append_left _ (List.mem_filterMap.2 ⟨.tmp t, by simpa using hx, rfl⟩)
      unfold opOK at hOK
      have hwA : Region.wanted oe (yielded ops A'.tmps) = true := by simp [Region.wanted, hge]
      rw [if_pos hwA, hex] at hOK
      rcases hse B w with ⟨v, hv⟩ | ⟨x, hx⟩
      · rw [hv w] at hOK
        have hK := hgo v w hOK.1 hOK.2 (fun hf b hb => by
          obtain ⟨w2, e2⟩ := hf B w
          rw [hv w] at e2
          rw [hb] at e2
          cases e2
          rfl)
        refine wpAny_first hoe (Region.noSelect_spec hsel) (fun _ _ _ h => h) fuel listed B w (fun j oj hj hjne hun hno => ?_) hre (.inl ⟨by simp [Region.wanted, hge], hv⟩) hK
        exact Region.free_spec hoe hfe j oj hj hjne (by
          have hjs : j < ops.size := (Array.getElem?_eq_some_iff.1 hj).1
          have hjn : n ≤ j := by
            rcases Nat.lt_or_ge j n with h | h
            · have h2 := hE j h hjne
              rw [Array.getD_eq_getD_getElem?, h2] at hun
              cases hun
            · exact h
          unfold headUp
          rw [Array.getD_eq_getD_getElem?, List.getElem?_toArray, List.getElem?_append_right (by simpa using hjn), List.length_replicate, List.getElem?_replicate, if_pos (by omega)]
          rfl) hno
      · rw [hx] at hOK
        exact absurd hOK (by simp [upOK])
    refine ⟨fun hr => absurd (hstuck listed B w hI hr) hall, fun i hi => ?_⟩
    obtain ⟨h0, o, ho, hup⟩ := mem_ready.1 hi
    have hdone : ∀ j ∈ depsOf o, listed[j]? = some true := fun j hj => by
      unfold depsOf at hj
      obtain ⟨x, he, rfl⟩ := List.mem_map.1 hj
      obtain ⟨he1, he2⟩ := List.mem_filter.1 he
      exact getD_false_true.1 (hup x (Array.mem_toList_iff.1 he1) he2)
    have hin : i < n := by
      rcases Nat.lt_or_ge i n with h | h
      · exact h
      · exact absurd (fun j hj hje => upto_all (p := fun j => listed[j]? = some true) hI.down 5 _ hdone j (htail i o h ho j hj hje)) hE
    obtain ⟨T, A', hOK, hSm, hgo⟩ := hmain i o hi ho hin
    exact wpOp_of_OKW ho (Region.noSelect_spec hsel i o · · ho) hSm (fun t ht => ht) hOK hgo
/-- The rule: the first operations each once; what waits for all of them, behind it, in whatever order. -/
theorem wp_region_inz {P : Program} {id : Nat} {Q : Exit → Act → World → Prop} {a : Act} {w : World} {l : List Oper} (n e : Nat) {oe : Oper} (hoe : l.toArray[e]? = some oe) (hge : oe.guard = none) (hse : Steady P oe) (hfe : Region.free .any l.toArray (headUp l.toArray n) e = true) (hen : e < n) (hm : P.follows .mixedOrders = true) (hn : n ≤ l.length) (hB : invB l.toArray a.tmps.size = true) (htl : tailE l.toArray n e = true)
    (h : wpInw P l.toArray w (fun A w' => wpAny P .any l.toArray (NoPanic Q) (l.length - n) (headUp l.toArray n) A w') (l.take n) 0 a [] []) : (Code.region id l.toArray true).wp P Q a w := by
  obtain ⟨Us, hl, hS, hO, hE⟩ := wpInw_all hB (l.take n) [] a [] [] ⟨rfl, rfl, fun _ _ => rfl, fun j hj => by simp at hj, fun j hj => by simp at hj, fun q hq => by simp at hq, fun q hq => by simp at hq⟩ (fun j hj => by
    have hj' : j < n := by rw [List.length_take] at hj; omega
    rw [List.getElem?_take_of_lt hj']
    simp) h
  simp only [List.nil_append, List.length_nil, Nat.zero_add] at hO hE
  · have hln : (l.take n).length = n := by rw [List.length_take]; omega
    rw [hln] at hE
    refine wp_region_noPanic (wp_region_any hm (wpAny_of_inz hoe hge hse hfe hen (Ts := Us) (w0 := w) (n := n) hB (by simpa using hn) htl hS (fun i o hi ho => hO i o (by rw [List.getElem?_take_of_lt hi]; simpa using ho)) (by simpa using hE) _ _ _ _ ⟨?_, rfl, rfl, by simp, fun j hj => ?_, fun j _ hj => ?_, fun t _ => rfl, fun j hj => ?_, fun i j _ hi => ?_⟩ ?_))
    · exact ⟨rfl, rfl, rfl, Nat.le_refl _, fun _ _ => rfl⟩
    · exfalso
      have := Array.mem_of_getElem? hj
      simp at this
    · exfalso
      have := Array.mem_of_getElem? hj
      simp at this
    · exfalso
      have := Array.mem_of_getElem? hj
      simp at this
    · exfalso
      have := Array.mem_of_getElem? hi
      simp at this
    · simp
end Go.Proofs.YtdnkpclpcelbaaaDoor
