/- The rule of the text before, of a region one of whose first operations may also come behind the last ones: it takes a part of a value, and nothing that the last ones do changes it. No program in it. Blocks that are known as whole rows: loads, stores, calls and what is made, an operation each; for regions that draw their order and for those that don't. No program in it. Points that are compared, number by number (layer 20). The curve's values as rows (layer 20): what makes them, loads them, compares them. -/
import Derived.Laws.Tables
import Derived.Laws.CopyOwn
import Derived.Laws.Rows
import Derived.Shelf.Abstract
import Derived.Test.YtnaldciakclccaaGreatEk06
import Derived.Test.YtnaldciakclccaaGreatEk07
namespace Go.Proofs.YtnaldciakclccaaGreat
set_option maxRecDepth 20000
set_option linter.unusedSimpArgs false
set_option linter.unusedVariables false
open Go.RowKit Go.Sort
/-- What it comes to doesn't hang on the world. -/
def Steady (P:Program) (o:Oper):Prop:=∀ (B:Act) (W:World),(∃ v,∀ W',(execOp B.eval o).run P W'=.ok (.value v) W')∨∃ x,(execOp B.eval o).run P W=.halt x W
theorem steady_extract {P:Program} {o:Oper} {x:Operand} {i:Nat} (ho:o.op=.extract x i):Steady P o:=fun B W=>by
 unfold execOp
 simp only[ho,Instr.extract]
 cases B.eval x with
 | tuple vs =>
   cases h:vs[i]? with
   | some v=>exact .inl ⟨v,fun W'=>by simp[h,Sem.run_bind,Sem.run_pure]⟩
   | none=>exact .inr ⟨_,by simp[h,Sem.run_bind,stuck];rfl⟩
 | _=>exact .inr ⟨_,by simp[Sem.run_bind,stuck];rfl⟩
/-- What stands behind the first n waits for all of them but one. -/
def tailE (ops:Array Oper) (n e:Nat):Bool:=(List.range ops.size).all fun i=>decide (i<n) || match ops[i]? with
 | none=>true
 | some o=>(List.range n).all fun j=>j == e || (upto ops 5 (depsOf o)).contains j
theorem wpAny_of_inz {P:Program} {ops:Array Oper} {Q0:Exit→Act→World→Prop} {e:Nat} {oe:Oper} (hoe:ops[e]?=some oe) (hge:oe.guard=none) (hse:Steady P oe) {n:Nat} (hfe:Region.free .any ops (headUp ops n) e=true) {a:Act} {w0:World} {Ts:List TkW} (hen:e<n) (hB:invB ops a.tmps.size=true) (hn:n≤ops.size) (htl:tailE ops n e=true) (hst:∀ T ∈ Ts,T.Stable)
    (hob:∀ i o,i<n→ops[i]?=some o→∃ T A Ps ns,Ts[i]?=some T∧AccW ops a Ts i A Ps ns∧(∀ p,T=.pr p true→Fresh P o)∧∀ d os,Given ops (grow (redrawn w0 d) os) (Ps.filter (waits ops o)) A (opOK P ops o T.tk (grow (redrawn w0 d) os)))
    (hend:∃ A Ps ns,AccW ops a Ts n A Ps ns∧∀ d os,Given ops (grow (redrawn w0 d) os) Ps A (fun A=>Apart ops ns A→wpAny P .any ops (NoPanic Q0) (ops.size-n) (headUp ops n) A (grow (redrawn w0 d) os))) :
    ∀ (fuel:Nat) (listed:Array Bool) (B:Act) (w:World),InwAt ops Ts n a w0 listed B w→listed.toList.count false=fuel→wpAny P .any ops (NoPanic Q0) fuel listed B w:=by
 have hB':=hB
 simp only[invB,Bool.and_eq_true,List.all_eq_true,List.mem_range] at hB'
 obtain⟨hsel,hops⟩:=hB'
 have hform:∀ i o,ops[i]?=some o→(∀ j ∈ depsOf o,j<i)∧(∀ d,o.dst=some d→d<a.tmps.size) ∧
     (∀ t ∈ o.looksAt ops,(∃ j ∈ depsOf o,dstOf ops j=some t)∨∀ j<ops.size,dstOf ops j≠some t):=fun i o ho=>by
  have h:=hops i (Array.getElem?_eq_some_iff.1 ho).1
  simp only[ho,Bool.and_eq_true,List.all_eq_true,decide_eq_true_eq] at h
  refine⟨h.1.1,fun d hd=>?_,fun t ht=>?_⟩
  ·have h2:=h.1.2
   rw[hd] at h2
   simp only[Bool.and_eq_true,decide_eq_true_eq] at h2
   exact h2.1
  ·have h3:=h.2 t ht
   simp only[Bool.or_eq_true,List.any_eq_true,List.all_eq_true,List.mem_range,beq_iff_eq,bne_iff_ne,ne_eq] at h3
   exact h3
 have htail:∀ i o,n≤i→ops[i]?=some o→∀ j<n,j≠e→j ∈ upto ops 5 (depsOf o):=fun i o hi ho j hj hje=>by
  simp only[tailE,List.all_eq_true,List.mem_range,Bool.or_eq_true,decide_eq_true_eq] at htl
  rcases htl i (Array.getElem?_eq_some_iff.1 ho).1 with h | h
  ·omega
  ·simp only[ho,List.all_eq_true,List.mem_range,Bool.or_eq_true,beq_iff_eq] at h
   rcases h j hj with h | h
   ·exact absurd h hje
   ·simpa using h
 -- all of the first n have come up
 have hfin:∀ listed B w,InwAt ops Ts n a w0 listed B w→(∀ i<n,listed[i]?=some true)→wpAny P .any ops (NoPanic Q0) (listed.toList.count false) listed B w:=fun listed B w hI hall=>by
  have hlist:listed=headUp ops n:=by
   apply Array.ext_getElem?
   intro k
   unfold headUp
   show listed[k]?=(List.replicate n true++List.replicate (ops.size-n) false).toArray[k]?
   rw[show (List.replicate n true++List.replicate (ops.size-n) false).toArray[k]?=(List.replicate n true++List.replicate (ops.size-n) false)[k]? by simp only[List.getElem?_toArray]]
   by_cases hk:k<n
   ·rw[hall k hk,List.getElem?_append_left (by simpa using hk),List.getElem?_replicate,if_pos hk]
   ·rw[List.getElem?_append_right (by simpa using (by omega:n≤k)),List.length_replicate,List.getElem?_replicate]
    by_cases hk2:k<ops.size
    ·rw[if_pos (by omega)]
     have hkl:k<listed.size:=by rw[hI.len];exact hk2
     rw[Array.getElem?_eq_getElem hkl]
     cases hb:listed[k] with
     | false=>rfl
     | true =>
       have:=hI.head k (by rw[Array.getElem?_eq_getElem hkl,hb])
       omega
    ·rw[if_neg (by omega),Array.getElem?_eq_none (by rw[hI.len];omega)]
  have hcnt:(headUp ops n).toList.count false=ops.size-n:=by
   unfold headUp
   simp[List.count_append,List.count_replicate]
  obtain⟨⟨d,os⟩,rfl⟩:=regrown_of_below hI.below
  obtain⟨A,Ps,ns,hA,hE⟩:=hend
  have hs:SameAt (fun t=>B.tmps[t]?=A.tmps[t]?) A B:=fun t ht=>ht
  obtain⟨A',hk,hS,hD,hZ⟩:=given_use _ A _ _ hs (by rw[hA.size,hI.size]) (hE d os) (fun q hq=>by
   obtain⟨hlt,f,hT⟩:=hA.back q hq
   obtain⟨T,u,hT',hu,hd⟩:=hI.known q.1 (hall q.1 hlt)
   rw[hT] at hT'
   obtain rfl:=Option.some.inj hT'
   exact⟨u,hu,hd⟩)
  have hAB:A'=B:=by
   obtain⟨t1,d1⟩:=A'
   obtain⟨t2,d2⟩:=B
   have e1:d1=d2:=by rw[show d1=A.defers from hD,hA.defers,show d2=a.defers from hI.defers]
   have e2:t1=t2:=Array.ext_getElem? fun t=>by
    refine (hS t ?_).symm
    by_cases h:∃ j,j<n∧dstOf ops j=some t
    ·obtain⟨j,hj,hd⟩:=h
     obtain⟨T,u,hT,hu,hdu⟩:=hI.known j (hall j hj)
     cases T with
     | val v =>
       refine .inl ?_
       rw[hdu t hd,hA.vals j hj v t hT hd,show u=v from hu]
     | pr p f=>exact .inr ⟨(j,p),hA.prs j hj p f hT,hd⟩
    ·refine .inl ?_
     rw[hI.out t (fun j hj hd=>h ⟨j,hI.head j hj,hd⟩),hA.out t (fun j hj hd=>h ⟨j,hj,hd⟩)]
   rw[e1,e2]
  rw[hAB] at hk
  have h2:=hk (fun i hi j hj hij d d' b b' hd hd' hb hb'=>by
   obtain⟨hi1,p,hp⟩:=hA.news i hi
   obtain⟨hj1,p',hp'⟩:=hA.news j hj
   exact hI.apart i j hij (hall i hi1) (hall j hj1) p p' hp hp' d d' b b' hd hd' hb hb')
  rw[hlist,hcnt]
  exact h2
 have hstuck:∀ listed B w,InwAt ops Ts n a w0 listed B w→Region.ready .any ops listed=[]→∀ i<n,listed[i]?=some true:=fun listed B w hI hr=>by
  intro i
  induction i using Nat.strongRecOn with
  | ind i ih =>
    intro hi
    have hio:i<ops.size:=by omega
    have hli:i<listed.size:=by rw[hI.len];exact hio
    cases hb:listed[i]? with
    | none=>rw[Array.getElem?_eq_none_iff] at hb;omega
    | some b =>
      cases b with
      | true=>rfl
      | false =>
        exfalso
        have ho:ops[i]?=some ops[i]:=Array.getElem?_eq_getElem hio
        have:i ∈ Region.ready .any ops listed:=mem_ready.2 ⟨by rw[Array.getD_eq_getD_getElem?,hb];rfl,ops[i],ho,fun e he hbi=>by
         have hd:e.on ∈ depsOf ops[i]:=by
          unfold depsOf
          exact List.mem_map.2 ⟨e,List.mem_filter.2 ⟨Array.mem_toList_iff.2 he,hbi⟩,rfl⟩
         have hlt:=(hform i _ ho).1 _ hd
         exact getD_false_true.2 (ih e.on hlt (by omega))⟩
        rw[hr] at this
        cases this
 intro fuel
 induction fuel with
 | zero =>
   intro listed B w hI hc
   have hall:∀ i<n,listed[i]?=some true:=fun i hi=>by
    have h0:=count_zero listed.toList (by omega) i
    rw[Array.getElem?_toList] at h0
    have hli:i<listed.size:=by rw[hI.len];omega
    rw[Array.getElem?_eq_getElem hli] at h0 ⊢
    cases hb:listed[i] with
    | true=>rfl
    | false=>rw[hb] at h0;exact absurd rfl h0
   have:=hfin listed B w hI hall
   rwa [hc] at this
 | succ fuel ih =>
   intro listed B w hI hc
   by_cases hall:∀ i<n,listed[i]?=some true
   ·have:=hfin listed B w hI hall
    rwa [hc] at this
   have hmain:∀ i o,i ∈ Region.ready .any ops listed→ops[i]?=some o→i<n→∃ T A',opOK P ops o T w A'∧SameAt (fun t=>t ∈ o.looksAt ops) A' B∧(∀ v w',T.holds v w'→Below w.heap.size w w'→(Fresh P o→∀ b,v=.pointer (some ⟨b,0,none⟩)→b=w.heap.size)→wpAny P .any ops (NoPanic Q0) fuel (listed.setIfInBounds i true) (B.put o.dst v) w'):=by
    intro i o hi ho hin
    obtain⟨h0,o',ho',hup⟩:=mem_ready.1 hi
    obtain rfl:o'=o:=by rw[ho] at ho';exact (Option.some.inj ho').symm
    have hdone:∀ j ∈ depsOf o',listed[j]?=some true:=fun j hj=>by
     unfold depsOf at hj
     obtain⟨e,he,rfl⟩:=List.mem_map.1 hj
     obtain⟨he1,he2⟩:=List.mem_filter.1 he
     exact getD_false_true.1 (hup e (Array.mem_toList_iff.1 he1) he2)
    obtain⟨hdep,hdst,hlook⟩:=hform i o' ho
    obtain⟨T,A,Ps,ns,hT,hA,hFr,hOb⟩:=hob i o' hin ho
    have h0':=getD_true_false.1 h0
    have hifree:listed[i]?=some false:=by rw[Array.getElem?_toList] at h0';exact h0'
    have hli:i<listed.size:=(Array.getElem?_eq_some_iff.1 hifree).1
    obtain⟨⟨d,os⟩,rfl⟩:=regrown_of_below hI.below
    have hs:SameAt (fun t=>B.tmps[t]?=A.tmps[t]?) A B:=fun t ht=>ht
    obtain⟨A',hk,hS,hD,hZ⟩:=given_use _ A _ _ hs (by rw[hA.size,hI.size]) (hOb d os) (fun q hq=>by
     obtain⟨hq1,hq2⟩:=List.mem_filter.1 hq
     obtain⟨T',u,hT',hu,hd'⟩:=hI.known q.1 (hdone q.1 (by simp only[waits,Bool.and_eq_true,List.contains_iff_mem] at hq2;exact hq2.1))
     obtain⟨_,f,hT2⟩:=hA.back q hq1
     rw[hT2] at hT'
     obtain rfl:=Option.some.inj hT'
     exact⟨u,hu,hd'⟩)
    have hNS:∀ t ∈ o'.looksAt ops,(B.tmps[t]?=A.tmps[t]?)∨∃ q ∈ Ps.filter (waits ops o'),dstOf ops q.1=some t:=fun t ht=>by
     rcases hlook t ht with ⟨j,hj,hd⟩ | hno
     ·obtain⟨T',u,hT',hu,hd'⟩:=hI.known j (hdone j hj)
      cases T' with
      | val v =>
        refine .inl ?_
        rw[hd' t hd,hA.vals j (hdep j hj) v t hT' hd,show u=v from hu]
      | pr p f=>exact .inr ⟨(j,p),List.mem_filter.2 ⟨hA.prs j (hdep j hj) p f hT',by simp only[waits,Bool.and_eq_true,List.contains_iff_mem,List.any_eq_true,beq_iff_eq];exact⟨hj,t,ht,hd⟩⟩,hd⟩
     ·refine .inl ?_
      rw[hA.out t fun j hj=>hno j (Nat.lt_trans hj (Array.getElem?_eq_some_iff.1 ho).1)]
      refine hI.out t fun j hj=>hno j ?_
      rw[← hI.len]
      exact (Array.getElem?_eq_some_iff.1 hj).1
    refine⟨T.tk,A',hk,fun t ht=>hS t (hNS t ht),fun v w' hv hb hfv=>ih _ _ _ ?_ ?_⟩
    ·have hdo:dstOf ops i=o'.dst:=by unfold dstOf;rw[ho];rfl
     have hold:∀ j,(listed.setIfInBounds i true)[j]?=some true→i≠j→listed[j]?=some true:=fun j hj hij=>by
      rw[Array.getElem?_setIfInBounds_ne hij] at hj;exact hj
     have hput:∀ j d,dstOf ops j=some d→i≠j→(B.put o'.dst v).tmps[d]?=B.tmps[d]?:=fun j d hd hij =>
      put_at (fun e=>hij (dst_apart hB (by rw[hdo];exact e) hd))
     refine⟨hI.below.trans ⟨hb.os,hb.tape,hb.output,hb.size,fun k hk=>hb.block k (Nat.lt_of_lt_of_le hk hI.below.size)⟩,by rw[put_defers];exact hI.defers,by rw[put_size];exact hI.size,by rw[Array.size_setIfInBounds];exact hI.len,fun j hj=>?_,fun j o' hj ho' e he=>?_,fun t ht=>?_,fun j hj=>?_,?_⟩
     ·by_cases hij:i=j
      ·omega
      ·exact hI.head j (hold j hj hij)
     ·have hup2:∀ e,listed[e]?=some true→(listed.setIfInBounds i true)[e]?=some true:=fun e he=>by
        by_cases hie:i=e
        ·subst hie;rw[Array.getElem?_setIfInBounds_self_of_lt hli]
        ·rw[Array.getElem?_setIfInBounds_ne hie];exact he
      by_cases hij:i=j
      ·subst hij
       rw[ho] at ho'
       obtain rfl:=Option.some.inj ho'
       exact hup2 e (hdone e he)
      ·exact hup2 e (hI.down j o' (hold j hj hij) ho' e he)
     ·rw[put_at (fun e=>ht i (by rw[Array.getElem?_setIfInBounds_self_of_lt hli]) (by rw[hdo];exact e))]
      refine hI.out t fun j hj=>ht j ?_
      by_cases hij:i=j
      ·subst hij;rw[Array.getElem?_setIfInBounds_self_of_lt hli]
      ·rw[Array.getElem?_setIfInBounds_ne hij];exact hj
     ·by_cases hij:i=j
      ·subst hij
       refine⟨T,v,hT,hv,fun d' hd'=>?_⟩
       rw[hdo] at hd'
       rw[hd']
       exact put_here (by rw[hI.size];exact hdst d' hd')
      ·obtain⟨T',u,hT',hu,hd'⟩:=hI.known j (hold j hj hij)
       refine⟨T',u,hT',(hst T' (List.mem_of_getElem? hT')).tk.keep hu hb,fun d'' hd''=>?_⟩
       rw[hput j d'' hd'' hij]
       exact hd' d'' hd''
     ·-- a block that is made now is another than those that were made
      have one:∀ j,i≠j→listed[j]?=some true→∀ p p',Ts[i]?=some (.pr p true)→Ts[j]?=some (.pr p' true)→∀ d d' b b',dstOf ops i=some d→dstOf ops j=some d'→(B.put o'.dst v).tmps[d]?=some (.pointer (some ⟨b,0,none⟩))→(B.put o'.dst v).tmps[d']?=some (.pointer (some ⟨b',0,none⟩))→b'<b:=fun j hij hj p p' hp hp' d d' b b' hd hd' hb1 hb2=>by
       rw[hdo] at hd
       rw[hd,put_here (by rw[hI.size];exact hdst d hd)] at hb1
       rw[hput j d' hd' hij] at hb2
       have hTp:T=.pr p true:=Option.some.inj (hT.symm.trans hp)
       have hbw:=hfv (hFr p hTp) b (Option.some.inj hb1)
       obtain⟨T',u,hT',hu,hdu⟩:=hI.known j hj
       rw[hp'] at hT'
       obtain rfl:=Option.some.inj hT'
       rw[hdu d' hd'] at hb2
       rw[Option.some.inj hb2] at hu
       have:=(hst _ (List.mem_of_getElem? hp')).2 rfl _ _ hu
       omega
      intro i' j' hne hi' hj' p p' hp hp' d d' b b' hd hd' hb1 hb2
      by_cases hii:i=i'
      ·subst hii
       have:=one j' hne (hold j' hj' hne) p p' hp hp' d d' b b' hd hd' hb1 hb2
       omega
      ·by_cases hjj:i=j'
       ·subst hjj
        have:=one i' hii (hold i' hi' hii) p' p hp' hp d' d b' b hd' hd hb2 hb1
        omega
       ·rw[hput i' d hd hii] at hb1
        rw[hput j' d' hd' hjj] at hb2
        exact hI.apart i' j' hne (hold i' hi' hii) (hold j' hj' hjj) p p' hp hp' d d' b b' hd hd' hb1 hb2
    ·have:=count_set listed.toList i h0'
     rw[Array.toList_setIfInBounds]
     omega
   by_cases hE:∀ i<n,i≠e→listed[i]?=some true
   ·have hne:listed[e]?≠some true:=fun h=>hall fun i hi=>by
      by_cases hie:i=e
      ·rw[hie];exact h
      ·exact hE i hi hie
    have heo:e<ops.size:=(Array.getElem?_eq_some_iff.1 hoe).1
    have hle:e<listed.size:=by rw[hI.len];exact heo
    have hfl:listed[e]?=some false:=by
     rw[Array.getElem?_eq_getElem hle] at hne ⊢
     cases hb:listed[e] with
     | false=>rfl
     | true=>rw[hb] at hne;exact absurd rfl hne
    have hre:e ∈ Region.ready .any ops listed:=mem_ready.2 ⟨by rw[Array.getD_eq_getD_getElem?,hfl];rfl,oe,hoe,fun x hx hbi=>by
     have hd:x.on ∈ depsOf oe:=by
      unfold depsOf
      exact List.mem_map.2 ⟨x,List.mem_filter.2 ⟨Array.mem_toList_iff.2 hx,hbi⟩,rfl⟩
     have hlt:=(hform e _ hoe).1 _ hd
     exact getD_false_true.2 (hE x.on (by omega) (by omega))⟩
    obtain⟨T,A',hOK,hSm,hgo⟩:=hmain e oe hre hoe hen
    have hex:execOp A'.eval oe=execOp B.eval oe:=execOp_congr oe (Region.noSelect_spec hsel e oe · · hoe) fun x hx=>eval_same hSm x fun t ht=>by
     subst ht
     exact List.mem_append_left _ (List.mem_filterMap.2 ⟨.tmp t,by simpa using hx,rfl⟩)
    unfold opOK at hOK
    have hwA:Region.wanted oe (yielded ops A'.tmps)=true:=by simp[Region.wanted,hge]
    rw[if_pos hwA,hex] at hOK
    rcases hse B w with ⟨v,hv⟩ | ⟨x,hx⟩
    ·rw[hv w] at hOK
     have hK:=hgo v w hOK.1 hOK.2 (fun hf b hb=>by
      obtain⟨w2,e2⟩:=hf B w
      rw[hv w] at e2
      rw[hb] at e2
      cases e2
      rfl)
     refine wpAny_first hoe (Region.noSelect_spec hsel) (fun _ _ _ h=>h) fuel listed B w (fun j oj hj hjne hun hno=>?_) hre (.inl ⟨by simp[Region.wanted,hge],hv⟩) hK
     exact Region.free_spec hoe hfe j oj hj hjne (by
      have hjs:j<ops.size:=(Array.getElem?_eq_some_iff.1 hj).1
      have hjn:n≤j:=by
       rcases Nat.lt_or_ge j n with h | h
       ·have h2:=hE j h hjne
        rw[Array.getD_eq_getD_getElem?,h2] at hun
        cases hun
       ·exact h
      unfold headUp
      rw[Array.getD_eq_getD_getElem?,List.getElem?_toArray,List.getElem?_append_right (by simpa using hjn),List.length_replicate,List.getElem?_replicate,if_pos (by omega)]
      rfl) hno
    ·rw[hx] at hOK
     exact absurd hOK (by simp[upOK])
   refine⟨fun hr=>absurd (hstuck listed B w hI hr) hall,fun i hi=>?_⟩
   obtain⟨h0,o,ho,hup⟩:=mem_ready.1 hi
   have hdone:∀ j ∈ depsOf o,listed[j]?=some true:=fun j hj=>by
    unfold depsOf at hj
    obtain⟨x,he,rfl⟩:=List.mem_map.1 hj
    obtain⟨he1,he2⟩:=List.mem_filter.1 he
    exact getD_false_true.1 (hup x (Array.mem_toList_iff.1 he1) he2)
   have hin:i<n:=by
    rcases Nat.lt_or_ge i n with h | h
    ·exact h
    ·exact absurd (fun j hj hje=>upto_all (p:=fun j=>listed[j]?=some true) hI.down 5 _ hdone j (htail i o h ho j hj hje)) hE
   obtain⟨T,A',hOK,hSm,hgo⟩:=hmain i o hi ho hin
   exact wpOp_of_OKW ho (Region.noSelect_spec hsel i o · · ho) hSm (fun t ht=>ht) hOK hgo
/-- The rule: the first operations each once; what waits for all of them, behind it, in whatever order. -/
theorem wp_region_inz {P:Program} {id:Nat} {Q:Exit→Act→World→Prop} {a:Act} {w:World} {l:List Oper} (n e:Nat) {oe:Oper} (hoe:l.toArray[e]?=some oe) (hge:oe.guard=none) (hse:Steady P oe) (hfe:Region.free .any l.toArray (headUp l.toArray n) e=true) (hen:e<n) (hm:P.follows .mixedOrders=true) (hn:n≤l.length) (hB:invB l.toArray a.tmps.size=true) (htl:tailE l.toArray n e=true)
    (h:wpInw P l.toArray w (fun A w'=>wpAny P .any l.toArray (NoPanic Q) (l.length-n) (headUp l.toArray n) A w') (l.take n) 0 a [] []):(Code.region id l.toArray true).wp P Q a w:=by
 obtain⟨Us,hl,hS,hO,hE⟩:=wpInw_all hB (l.take n) [] a [] [] ⟨rfl,rfl,fun _ _=>rfl,fun j hj=>by simp at hj,fun j hj=>by simp at hj,fun q hq=>by simp at hq,fun q hq=>by simp at hq⟩ (fun j hj=>by
  have hj':j<n:=by rw[List.length_take] at hj;omega
  rw[List.getElem?_take_of_lt hj']
  simp) h
 simp only[List.nil_append,List.length_nil,Nat.zero_add] at hO hE
 ·have hln:(l.take n).length=n:=by rw[List.length_take];omega
  rw[hln] at hE
  refine wp_region_noPanic (wp_region_any hm (wpAny_of_inz hoe hge hse hfe hen (Ts:=Us) (w0:=w) (n:=n) hB (by simpa using hn) htl hS (fun i o hi ho=>hO i o (by rw[List.getElem?_take_of_lt hi];simpa using ho)) (by simpa using hE) _ _ _ _ ⟨?_,rfl,rfl,by simp,fun j hj=>?_,fun j _ hj=>?_,fun t _=>rfl,fun j hj=>?_,fun i j _ hi=>?_⟩ ?_))
  ·exact⟨rfl,rfl,rfl,Nat.le_refl _,fun _ _=>rfl⟩
  ·exfalso
   have:=Array.mem_of_getElem? hj
   simp at this
  ·exfalso
   have:=Array.mem_of_getElem? hj
   simp at this
  ·exfalso
   have:=Array.mem_of_getElem? hj
   simp at this
  ·exfalso
   have:=Array.mem_of_getElem? hi
   simp at this
  ·simp
abbrev Blk:=Nat × Obj
/-- What is known of the blocks that a call has made: their addresses differ, what lay before is as it was. -/
structure Mem (w0:World) (M:List Blk) (w:World):Prop where
 below:Below w0.heap.size w0 w
 low:∀ p ∈ M,w0.heap.size≤p.1
 nod:M.Pairwise (fun p q=>p.1≠q.1)
 at_:∀ p ∈ M,w.heap[p.1]?=some p.2
section
variable {w0 w w':World} {M:List Blk}
theorem Mem.start (w:World):Mem w [] w:=⟨Below.refl _ _,by simp,.nil,by simp⟩
theorem Mem.get (h:Mem w0 M w) (i:Nat) {b:Nat} {o:Obj} (hi:M[i]?=some (b,o)):w.heap[b]?=some o:=h.at_ (b,o) (List.mem_of_getElem? hi)
theorem Mem.calls (h:Mem w0 M w) (hb:Below w.heap.size w w'):Mem w0 M w' :=
 ⟨h.below.trans (hb.mono h.below.size),h.low,h.nod,fun p hp=>by
  have hg:=h.at_ p hp
  rw[hb.block p.1 (Array.getElem?_eq_some_iff.1 hg).1]
  exact hg⟩
theorem Mem.old (h:Mem w0 M w) {b:Nat} {o:Obj} (hb:w0.heap[b]?=some o):w.heap[b]?=some o:=by
 rw[h.below.block b (Array.getElem?_eq_some_iff.1 hb).1]
 exact hb
theorem Mem.lt (h:Mem w0 M w) {p:Blk} (hp:p ∈ M):p.1<w.heap.size:=(Array.getElem?_eq_some_iff.1 (h.at_ p hp)).1
theorem Mem.news (h:Mem w0 M w) (hb:Below w.heap.size w w') (L:List Blk) (hL:∀ p ∈ L,w.heap.size≤p.1∧w'.heap[p.1]?=some p.2) (hn:L.Pairwise (fun p q=>p.1≠q.1)):Mem w0 (L++M) w':=by
 have hk:=h.calls hb
 refine⟨hk.below,fun p hp=>?_,?_,fun p hp=>?_⟩
 ·rcases List.mem_append.1 hp with hp | hp
  ·exact Nat.le_trans h.below.size (hL p hp).1
  ·exact h.low p hp
 ·refine List.pairwise_append.2 ⟨hn,h.nod,fun p hp q hq e=>?_⟩
  have h1:=(hL p hp).1
  have h2:=h.lt hq
  omega
 ·rcases List.mem_append.1 hp with hp | hp
  ·exact (hL p hp).2
  ·exact hk.at_ p hp
theorem Mem.new1 (h:Mem w0 M w) (o:Obj):Mem w0 ((w.heap.size,o)::M) (w.alloc o) :=
 h.news (mk_at w o).2 [(w.heap.size,o)] (fun p hp=>by
   rcases List.mem_singleton.1 hp with rfl
   exact⟨Nat.le_refl _,(mk_at w o).1⟩) (by simp)
theorem Mem.news1 (h:Mem w0 M w) (hb:Below w.heap.size w w') {b1:Nat} {o1:Obj} (l1:w.heap.size≤b1) (g1:w'.heap[b1]?=some o1):Mem w0 ((b1,o1)::M) w' :=
 h.news hb [(b1,o1)] (fun p hp=>by
   rcases List.mem_singleton.1 hp with rfl
   exact⟨l1,g1⟩) (by simp)
theorem Mem.news2 (h:Mem w0 M w) (hb:Below w.heap.size w w') {b1 b2:Nat} {o1 o2:Obj} (l1:w.heap.size≤b1) (g1:w'.heap[b1]?=some o1) (l2:w.heap.size≤b2) (g2:w'.heap[b2]?=some o2) (n12:b1≠b2):Mem w0 ((b1,o1)::(b2,o2)::M) w' :=
 h.news hb [(b1,o1),(b2,o2)] (fun p hp=>by
   simp only[List.mem_cons,List.not_mem_nil,or_false] at hp
   rcases hp with rfl | rfl
   ·exact⟨l1,g1⟩
   ·exact⟨l2,g2⟩) (by simp[n12])
theorem Mem.news3 (h:Mem w0 M w) (hb:Below w.heap.size w w') {b1 b2 b3:Nat} {o1 o2 o3:Obj} (l1:w.heap.size≤b1) (g1:w'.heap[b1]?=some o1) (l2:w.heap.size≤b2) (g2:w'.heap[b2]?=some o2) (l3:w.heap.size≤b3) (g3:w'.heap[b3]?=some o3) (n12:b1≠b2) (n13:b1≠b3) (n23:b2≠b3):Mem w0 ((b1,o1)::(b2,o2)::(b3,o3)::M) w' :=
 h.news hb [(b1,o1),(b2,o2),(b3,o3)] (fun p hp=>by
   simp only[List.mem_cons,List.not_mem_nil,or_false] at hp
   rcases hp with rfl | rfl | rfl
   ·exact⟨l1,g1⟩
   ·exact⟨l2,g2⟩
   ·exact⟨l3,g3⟩) (by simp[n12,n13,n23])
theorem Mem.news4 (h:Mem w0 M w) (hb:Below w.heap.size w w') {b1 b2 b3 b4:Nat} {o1 o2 o3 o4:Obj} (l1:w.heap.size≤b1) (g1:w'.heap[b1]?=some o1) (l2:w.heap.size≤b2) (g2:w'.heap[b2]?=some o2) (l3:w.heap.size≤b3) (g3:w'.heap[b3]?=some o3) (l4:w.heap.size≤b4) (g4:w'.heap[b4]?=some o4)
    (n12:b1≠b2) (n13:b1≠b3) (n14:b1≠b4) (n23:b2≠b3) (n24:b2≠b4) (n34:b3≠b4):Mem w0 ((b1,o1)::(b2,o2)::(b3,o3)::(b4,o4)::M) w' :=
 h.news hb [(b1,o1),(b2,o2),(b3,o3),(b4,o4)] (fun p hp=>by
   simp only[List.mem_cons,List.not_mem_nil,or_false] at hp
   rcases hp with rfl | rfl | rfl | rfl
   ·exact⟨l1,g1⟩
   ·exact⟨l2,g2⟩
   ·exact⟨l3,g3⟩
   ·exact⟨l4,g4⟩) (by simp[n12,n13,n14,n23,n24,n34])
theorem Mem.set (h:Mem w0 M w) (i:Nat) {b:Nat} {old cs:Array Value} {t:TypeId} {fr:Nat × Nat} (hi:M[i]?=some (b,.cells old t fr)):Mem w0 (M.set i (b,.cells cs t fr)) (w.setRow b cs):=by
 have hlt:i<M.length:=(List.getElem?_eq_some_iff.1 hi).1
 have hval:M[i]=(b,.cells old t fr):=(List.getElem?_eq_some_iff.1 hi).2
 have hm:(b,Obj.cells old t fr) ∈ M:=List.mem_of_getElem? hi
 have hmap:(M.set i (b,.cells cs t fr)).map Prod.fst=M.map Prod.fst:=by
  rw[List.map_set]
  apply List.ext_getElem?
  intro j
  rw[List.getElem?_set]
  split
  ·rename_i e
   subst e
   rw[if_pos (by simpa using hlt),List.getElem?_map,hi]
   rfl
  ·rfl
 have hp':(M.map Prod.fst).Pairwise (·≠·):=List.pairwise_map.2 h.nod
 refine⟨below_setRow h.below (h.low _ hm) cs,fun p hp=>?_,?_,fun p hp=>?_⟩
 ·rcases List.mem_or_eq_of_mem_set hp with hp | rfl
  ·exact h.low p hp
  ·exact h.low (b,.cells old t fr) hm
 ·exact List.pairwise_map.1 (by rw[hmap];exact hp')
 ·obtain⟨j,hj⟩:=List.getElem?_of_mem hp
  rw[List.getElem?_set] at hj
  by_cases e:i=j
  ·subst e
   rw[if_pos rfl,if_pos hlt] at hj
   cases hj
   exact setRow_heap w b old cs t fr (h.get i hi)
  ·rw[if_neg e] at hj
   have hpM:p ∈ M:=List.mem_of_getElem? hj
   have hne:p.1≠b:=by
    have hn:=List.pairwise_iff_getElem.1 h.nod
    have hjl:j<M.length:=(List.getElem?_eq_some_iff.1 hj).1
    have hjv:M[j]=p:=(List.getElem?_eq_some_iff.1 hj).2
    rcases Nat.lt_or_gt_of_ne e with h1 | h1
    ·have:=hn i j hlt hjl h1
     rw[hval,hjv] at this
     exact fun e=>this e.symm
    ·have:=hn j i hjl hlt h1
     rw[hval,hjv] at this
     exact this
   rw[setRow_other w b p.1 cs hne]
   exact h.at_ p hpM
end
/-- A type whose values lie in n cells, as a row. -/
def RowTy (P:Program) (ty:TypeId) (n:Nat):Prop:=((∃ fs,P.underlying ty=some (.struct fs))∨∃ l e,P.underlying ty=some (.array l e))∧(P.info? ty).map (·.size)=some n
theorem Mem.load {P:Program} {w0 w:World} {M:List Blk} (h:Mem w0 M w) (i:Nat) {b:Nat} {cs:Array Value} {t:TypeId} {fr:Nat × Nat} (hi:M[i]?=some (b,.cells cs t fr)) {ty:TypeId} (hT:RowTy P ty cs.size):(loadVar ty ⟨b,0,none⟩).run P w=.ok (.agg cs) w:=by
 rcases hT with ⟨⟨fs,h1⟩ | ⟨l,e,h1⟩,h3⟩
 ·exact run_loadVar_row w b t ty cs fr _ (h.get i hi) h1 rfl h3
 ·exact run_loadVar_row w b t ty cs fr _ (h.get i hi) h1 rfl h3
theorem load_of {P:Program} {w:World} {b:Nat} {cs:Array Value} {t:TypeId} {fr:Nat × Nat} (hi:w.heap[b]?=some (.cells cs t fr)) {ty:TypeId} (hT:RowTy P ty cs.size):(loadVar ty ⟨b,0,none⟩).run P w=.ok (.agg cs) w:=by
 rcases hT with ⟨⟨fs,h1⟩ | ⟨l,e,h1⟩,h3⟩
 ·exact run_loadVar_row w b t ty cs fr _ hi h1 rfl h3
 ·exact run_loadVar_row w b t ty cs fr _ hi h1 rfl h3
/-- Part of a row is loaded. -/
theorem load_part {P:Program} {w:World} {b off:Nat} {cs sub:Array Value} {t:TypeId} {fr:Nat × Nat} (hi:w.heap[b]?=some (.cells cs t fr)) (hs:(cs.toList.drop off).take sub.size=sub.toList) {ty:TypeId} (hT:RowTy P ty sub.size):(loadVar ty ⟨b,off,none⟩).run P w=.ok (.agg sub) w:=by
 have hl:(loadCells ⟨b,off,none⟩ sub.toList.length).run P w=.ok sub.toList.toArray w :=
  run_loadCells_list (P:=P) w ⟨b,off,none⟩ sub.toList (fun j v hv=>by
   have hadd:(⟨b,off,none⟩:Addr).add j=⟨b,off+j,none⟩:=by unfold Addr.add;split <;> simp_all
   rw[hadd,cell_of_row w b (off+j) cs t fr hi]
   rw[← hs] at hv
   have hj:j<sub.size:=by
    have:=(List.getElem?_eq_some_iff.1 hv).1
    rw[List.length_take] at this
    omega
   rw[List.getElem?_take_of_lt hj,List.getElem?_drop,Array.getElem?_toList] at hv
   exact hv)
 obtain⟨hk,h3⟩:=hT
 cases hq:P.info? ty with
 | none=>simp[hq] at h3
 | some i =>
   have hz:i.size=sub.size:=by simpa [hq] using h3
   have hagg:(isAgg ty).run P w=.ok true w:=by
    unfold isAgg
    rcases hk with ⟨fs,hu⟩ | ⟨l,e,hu⟩
    ·rw[Sem.run_bind,run_underlying hu w];rfl
    ·rw[Sem.run_bind,run_underlying hu w];rfl
   simp only[Array.length_toList,Array.toArray_toList] at hl
   simp[loadVar,Sem.run_bind,hagg,sizeOf,typeInfo,hq,hz,hl]
theorem run_load_part {P:Program} {o:Oper} {A:Act} {w:World} {ty:TypeId} {x:Operand} {b off:Nat} {t:TypeId} {cs sub:Array Value} {fr:Nat × Nat} (ho:o.op=.load ty x) (hx:A.eval x=.pointer (some ⟨b,off,none⟩)) (hg:w.heap[b]?=some (.cells cs t fr)) (hs:(cs.toList.drop off).take sub.size=sub.toList) (hT:RowTy P ty sub.size) :
    (execOp A.eval o).run P w=.ok (.value (.agg sub)) w:=by
 unfold execOp
 simp only[ho,hx,Instr.loadAt,Instr.sureAddr,Sem.run_bind,Sem.run_pure,Result.andThen_ok,load_part hg hs hT]
theorem results_arr4 {P:Program} {fn:Func} {tmps:Array Value} {w:World} {v1 v2 v3 v4:Value} {a1 t1 b1 a2 t2 b2 a3 t3 b3 a4 t4 b4:Nat} (h:fn.results=#[.cell a1 t1,.cell a2 t2,.cell a3 t3,.cell a4 t4]) (h1:tmps.getD a1 undef=.pointer (some ⟨b1,0,none⟩)) (h2:tmps.getD a2 undef=.pointer (some ⟨b2,0,none⟩)) (h3:tmps.getD a3 undef=.pointer (some ⟨b3,0,none⟩)) (h4:tmps.getD a4 undef=.pointer (some ⟨b4,0,none⟩))
    (l1:(loadVar t1 ⟨b1,0,none⟩).run P w=.ok v1 w) (l2:(loadVar t2 ⟨b2,0,none⟩).run P w=.ok v2 w) (l3:(loadVar t3 ⟨b3,0,none⟩).run P w=.ok v3 w) (l4:(loadVar t4 ⟨b4,0,none⟩).run P w=.ok v4 w):(results fn tmps).run P w=.ok (.tuple #[v1,v2,v3,v4]) w:=by
 have g1:tmps[a1]?.getD undef=.pointer (some ⟨b1,0,none⟩):=by simpa using h1
 have g2:tmps[a2]?.getD undef=.pointer (some ⟨b2,0,none⟩):=by simpa using h2
 have g3:tmps[a3]?.getD undef=.pointer (some ⟨b3,0,none⟩):=by simpa using h3
 have g4:tmps[a4]?.getD undef=.pointer (some ⟨b4,0,none⟩):=by simpa using h4
 simp[results,h,g1,g2,g3,g4,asAddr,l1,l2,l3,l4]
theorem results_slot {P:Program} {fn:Func} {tmps:Array Value} {w:World} {u:Value} {s:Nat} (h:fn.results=#[.tmp s]) (hs:tmps.getD s undef=u):(results fn tmps).run P w=.ok u w:=by
 have h2:tmps[s]?.getD undef=u:=by simpa using hs
 simp[results,h,h2]
theorem run_call_fn {P:Program} {o:Oper} {A:Act} {f:FuncId} {args:Array Operand} {tys:Array TypeId} {vals:Array Value} (W:World) (hE:Enters P f) (ho:o.op=.call { callee:=.value (.func f),args:=args,argTypes:=tys }) (hv:args.map A.eval=vals):(execOp A.eval o).run P W=.ok (.enter f vals) W:=by
 have h:=hE vals W
 unfold execOp
 simp[ho,resolve,Deferred.ofValue,Act.eval,invoke,hv,h]
section
variable {P:Program} {o:Oper} {A:Act} {t:TypeId} {v u:Value} {W W':World} {x:Operand} {parts:Array (Nat × Operand)} {ps:Array (Nat × Value)}
theorem run_alloc_of (ho:o.op=.alloc t) (h:(Instr.alloc t true (.tuple #[])).run P W=.ok v W'):(execOp A.eval o).run P W=.ok (.value v) W':=by
 unfold execOp
 simp only[ho,Sem.run_bind,h,Result.andThen_ok]
 rfl
theorem run_box_of (ho:o.op=.box t x) (hx:A.eval x=u) (h:(Instr.box t u).run P W=.ok v W'):(execOp A.eval o).run P W=.ok (.value v) W':=by
 unfold execOp
 simp only[ho,hx,Sem.run_bind,h,Result.andThen_ok]
 rfl
theorem run_build_of (ho:o.op=.build t parts) (hp:(parts.map fun (i,x)=>(i,A.eval x))=ps) (h:(Instr.build t ps).run P W=.ok v W'):(execOp A.eval o).run P W=.ok (.value v) W':=by
 unfold execOp
 simp only[ho,hp,Sem.run_bind,h,Result.andThen_ok]
 rfl
theorem run_slice_of {n:Nat} (ho:o.op=.buildSlice t n parts) (hp:(parts.map fun (i,x)=>(i,A.eval x))=ps) (h:(Instr.buildSlice t n ps).run P W=.ok v W'):(execOp A.eval o).run P W=.ok (.value v) W':=by
 unfold execOp
 simp only[ho,hp,Sem.run_bind,h,Result.andThen_ok]
 rfl
theorem run_field_of {i:Nat} (ho:o.op=.fieldAddr t x i) (hx:A.eval x=u) (h:(Instr.fieldAt t u i).run P W=.ok v W'):(execOp A.eval o).run P W=.ok (.value v) W':=by
 unfold execOp
 simp only[ho,hx,Sem.run_bind,h,Result.andThen_ok]
 rfl
theorem run_index_of {y:Operand} {z:Value} (ho:o.op=.indexAddr t x y) (hx:A.eval x=u) (hy:A.eval y=z) (h:(Instr.indexAt t u z).run P W=.ok v W'):(execOp A.eval o).run P W=.ok (.value v) W':=by
 unfold execOp
 simp only[ho,hx,hy,Sem.run_bind,h,Result.andThen_ok]
 rfl
theorem run_bin_of {op:BinOp} {y:Operand} {z:Value} {t':TypeId} (ho:o.op=.binOp op t x y t') (hx:A.eval x=u) (hy:A.eval y=z) (h:(do eqGuard op t x y u z;binOp op t u z:Sem Value).run P W=.ok v W'):(execOp A.eval o).run P W=.ok (.value v) W':=by
 unfold execOp
 simp only[ho,hx,hy]
 rw[Sem.run_bind,h]
 rfl
end
theorem run_load_row {P:Program} {o:Oper} {A:Act} {w:World} {ty:TypeId} {x:Operand} {b:Nat} {t:TypeId} {cs:Array Value} {fr:Nat × Nat} (ho:o.op=.load ty x) (hx:A.eval x=.pointer (some ⟨b,0,none⟩)) (hg:w.heap[b]?=some (.cells cs t fr)) (hT:RowTy P ty cs.size) :
    (execOp A.eval o).run P w=.ok (.value (.agg cs)) w:=by
 unfold execOp
 simp only[ho,hx,Instr.loadAt,Instr.sureAddr,Sem.run_bind,Sem.run_pure,Result.andThen_ok,load_of hg hT]
section
variable {P:Program} {ops:Array Oper} {w0 w00:World} {Q:Act→World→Prop} {o:Oper} {rest:List Oper} {k:Nat} {A:Act} {Ps:List PkW} {ns:List Nat} {M:List Blk}
/-- In a region that draws: a row is loaded. -/
theorem inw_row (hM:Mem w00 M w0) (i:Nat) {ty:TypeId} {x:Operand} {b:Nat} {t:TypeId} {cs:Array Value} {fr:Nat × Nat} {v:Value} (ho:o.op=.load ty x) (hx:A.eval x=.pointer (some ⟨b,0,none⟩)) (hi:M[i]?=some (b,.cells cs t fr)) (hv:v=.agg cs) (hT:RowTy P ty cs.size)
    (hf:Ps.filter (waits ops o)=[]) (hw:Region.wanted o (yielded ops A.tmps)=true) (hr:wpInw P ops w0 Q rest (k+1) (A.put o.dst v) Ps ns):wpInw P ops w0 Q (o::rest) k A Ps ns:=by
 subst hv
 exact inw_val hf hw (fun d os=>run_load_row ho hx ((hM.calls (below_regrown w0 d os)).get i hi) hT) hr
theorem inw_part (hM:Mem w00 M w0) (i:Nat) {ty:TypeId} {x:Operand} {b off:Nat} {t:TypeId} {cs sub:Array Value} {fr:Nat × Nat} {v:Value} (ho:o.op=.load ty x) (hx:A.eval x=.pointer (some ⟨b,off,none⟩)) (hi:M[i]?=some (b,.cells cs t fr)) (hv:v=.agg sub) (hs:(cs.toList.drop off).take sub.size=sub.toList) (hT:RowTy P ty sub.size)
    (hf:Ps.filter (waits ops o)=[]) (hw:Region.wanted o (yielded ops A.tmps)=true) (hr:wpInw P ops w0 Q rest (k+1) (A.put o.dst v) Ps ns):wpInw P ops w0 Q (o::rest) k A Ps ns:=by
 subst hv
 exact inw_val hf hw (fun d os=>run_load_part ho hx ((hM.calls (below_regrown w0 d os)).get i hi) hs hT) hr
/-- .. what hangs on no block. -/
theorem inw_pure {v:Value} (h:∀ W,(execOp A.eval o).run P W=.ok (.value v) W)
    (hf:Ps.filter (waits ops o)=[]) (hw:Region.wanted o (yielded ops A.tmps)=true) (hr:wpInw P ops w0 Q rest (k+1) (A.put o.dst v) Ps ns):wpInw P ops w0 Q (o::rest) k A Ps ns :=
 inw_val hf hw (fun _ _=>h _) hr
/-- .. a slice is made of values. -/
theorem inw_slice {n:Nat} {L:Array Value} {T:TypeId} (h:∀ W,(execOp A.eval o).run P W=.ok (.value (.slice (some ⟨W.heap.size,0,none⟩) n n)) (W.alloc (.cells L T (0,0))))
    (hf:Ps.filter (waits ops o)=[]) (hw:Region.wanted o (yielded ops A.tmps)=true)
    (hr:wpInw P ops w0 Q rest (k+1) A (Ps++[(k,fun u w'=>∃ b,u=.slice (some ⟨b,0,none⟩) n n∧w'.heap[b]?=some (.cells L T (0,0)))]) ns):wpInw P ops w0 Q (o::rest) k A Ps ns :=
 inw_mk (fun b=>.slice (some ⟨b,0,none⟩) n n) (.cells L T (0,0)) hf hw (fun _ _=>h _) hr
/-- .. a call. -/
theorem inw_callV {f:FuncId} {args:Array Value} {v:Value} (h:∀ W,(execOp A.eval o).run P W=.ok (.enter f args) W)
    (hc:∀ W,Below w0.heap.size w0 W→Calls P f args W fun e w'=>e=.returned v∧Below W.heap.size W w')
    (hf:Ps.filter (waits ops o)=[]) (hw:Region.wanted o (yielded ops A.tmps)=true) (hr:wpInw P ops w0 Q rest (k+1) (A.put o.dst v) Ps ns):wpInw P ops w0 Q (o::rest) k A Ps ns :=
 inw_call hf hw (fun _ _=>h _) (fun d os=>hc _ (below_regrown w0 d os)) hr
/-- .. a call of the slice made at operation j. -/
theorem inw_callS (j:Nat) (t:Tmp) {f:FuncId} {n:Nat} {L:Array Value} {T:TypeId} {v:Value} (hf:Ps.filter (waits ops o)=[(j,fun u w'=>∃ b,u=.slice (some ⟨b,0,none⟩) n n∧w'.heap[b]?=some (.cells L T (0,0)))]) (hd:dstOf ops j=some t)
    (hw:∀ b,Region.wanted o (yielded ops (A.put (some t) (.slice (some ⟨b,0,none⟩) n n)).tmps)=true)
    (h:∀ b W,(execOp (A.put (some t) (.slice (some ⟨b,0,none⟩) n n)).eval o).run P W=.ok (.enter f #[.slice (some ⟨b,0,none⟩) n n]) W)
    (hc:∀ b W,W.heap[b]?=some (.cells L T (0,0))→Calls P f #[.slice (some ⟨b,0,none⟩) n n] W fun e w'=>e=.returned v∧Below W.heap.size W w')
    (hr:wpInw P ops w0 Q rest (k+1) (A.put o.dst v) Ps ns):wpInw P ops w0 Q (o::rest) k A Ps ns :=
 inw_callp (args:=fun b=>#[.slice (some ⟨b,0,none⟩) n n]) (v0:=fun b=>.slice (some ⟨b,0,none⟩) n n) hf hd hw (fun b _ _=>h b _) hc hr
/-- The end: what was made, one after the other. -/
theorem inw_fin (h:∀ d os,Given ops (grow (redrawn w0 d) os) Ps A (fun A=>Apart ops ns A→Q A (grow (redrawn w0 d) os))):wpInw P ops w0 Q [] k A Ps ns:=h
end
theorem given_mk {ops:Array Oper} {w:World} {A:Act} {K:Act→Prop} {j:Nat} {t:Tmp} {v0:Nat→Value} {ob:Obj} {ps:List PkW} (hd:dstOf ops j=some t) (h:∀ b,Given ops w ps (A.put (some t) (v0 b)) K):Given ops w ((j,fun u w'=>∃ b,u=v0 b∧w'.heap[b]?=some ob)::ps) A K:=by
 rintro u ⟨b,rfl,_⟩
 show Given ops w ps (A.put (dstOf ops j) (v0 b)) K
 rw[hd]
 exact h b
theorem given_new {ops:Array Oper} {w:World} {A:Act} {K:Act→Prop} {j:Nat} {t:Tmp} {B:Nat} {ob:Obj} {ps:List PkW} (hd:dstOf ops j=some t) (h:∀ b,B≤b→w.heap[b]?=some ob→Given ops w ps (A.put (some t) (.pointer (some ⟨b,0,none⟩))) K):Given ops w ((j,fun u w'=>∃ b,u=.pointer (some ⟨b,0,none⟩)∧B≤b∧w'.heap[b]?=some ob)::ps) A K:=by
 rintro u ⟨b,rfl,hB,hb⟩
 show Given ops w ps (A.put (dstOf ops j) (.pointer (some ⟨b,0,none⟩))) K
 rw[hd]
 exact h b hB hb
theorem given_nil {ops:Array Oper} {w:World} {A:Act} {K:Act→Prop} (h:K A):Given ops w [] A K:=h
theorem Apart.ne {ops:Array Oper} {ns:List Nat} {A:Act} (h:Apart ops ns A) (i j:Nat) (hi:ns.contains i=true) (hj:ns.contains j=true) (hne:(i == j)=false) {d d':Tmp} {b b':Nat} (e1:dstOf ops i=some d) (e2:dstOf ops j=some d') (e3:A.tmps[d]?=some (.pointer (some ⟨b,0,none⟩))) (e4:A.tmps[d']?=some (.pointer (some ⟨b',0,none⟩))):b≠b' :=
 h i (by simpa using hi) j (by simpa using hj) (by simpa using hne) d d' b b' e1 e2 e3 e4
section
variable {P:Program} {ops:Array Oper} {w w0:World} {Q:Exit→Act→World→Prop} {o:Oper} {rest:List Oper} {A:Act} {M:List Blk}
/-- In a region of the text's order. -/
theorem wl_row (hM:Mem w0 M w) (i:Nat) {ty:TypeId} {x:Operand} {b:Nat} {t:TypeId} {cs:Array Value} {fr:Nat × Nat} {v:Value} (ho:o.op=.load ty x) (hx:A.eval x=.pointer (some ⟨b,0,none⟩)) (hi:M[i]?=some (b,.cells cs t fr)) (hv:v=.agg cs) (hT:RowTy P ty cs.size)
    (hgd:Region.wanted o (yielded ops A.tmps)=true) (hr:wpList P ops Q rest (A.put o.dst v) w):wpList P ops Q (o::rest) A w:=by
 subst hv
 refine wpList_step fun K hK=>?_
 rw[if_pos hgd]
 unfold Oper.wp
 rw[run_load_row ho hx (hM.get i hi) hT]
 exact hK _ _ hr
theorem wl_part (hM:Mem w0 M w) (i:Nat) {ty:TypeId} {x:Operand} {b off:Nat} {t:TypeId} {cs sub:Array Value} {fr:Nat × Nat} {v:Value} (ho:o.op=.load ty x) (hx:A.eval x=.pointer (some ⟨b,off,none⟩)) (hi:M[i]?=some (b,.cells cs t fr)) (hv:v=.agg sub) (hs:(cs.toList.drop off).take sub.size=sub.toList) (hT:RowTy P ty sub.size)
    (hgd:Region.wanted o (yielded ops A.tmps)=true) (hr:wpList P ops Q rest (A.put o.dst v) w):wpList P ops Q (o::rest) A w:=by
 subst hv
 refine wpList_step fun K hK=>?_
 rw[if_pos hgd]
 unfold Oper.wp
 rw[run_load_part ho hx (hM.get i hi) hs hT]
 exact hK _ _ hr
theorem wl_far {ty:TypeId} {x:Operand} {b off:Nat} {t:TypeId} {cs sub:Array Value} {fr:Nat × Nat} {v:Value} (hg:w.heap[b]?=some (.cells cs t fr)) (ho:o.op=.load ty x) (hx:A.eval x=.pointer (some ⟨b,off,none⟩)) (hv:v=.agg sub) (hs:(cs.toList.drop off).take sub.size=sub.toList) (hT:RowTy P ty sub.size)
    (hgd:Region.wanted o (yielded ops A.tmps)=true) (hr:wpList P ops Q rest (A.put o.dst v) w):wpList P ops Q (o::rest) A w:=by
 subst hv
 refine wpList_step fun K hK=>?_
 rw[if_pos hgd]
 unfold Oper.wp
 rw[run_load_part ho hx hg hs hT]
 exact hK _ _ hr
theorem wl_pure {v:Value} (h:∀ W,(execOp A.eval o).run P W=.ok (.value v) W) (hgd:Region.wanted o (yielded ops A.tmps)=true) (hr:wpList P ops Q rest (A.put o.dst v) w):wpList P ops Q (o::rest) A w:=by
 refine wpList_step fun K hK=>?_
 rw[if_pos hgd]
 unfold Oper.wp
 rw[h]
 exact hK _ _ hr
theorem wl_new (hM:Mem w0 M w) {f:Nat→Value} {ob:Obj} (h:∀ W,(execOp A.eval o).run P W=.ok (.value (f W.heap.size)) (W.alloc ob)) (hgd:Region.wanted o (yielded ops A.tmps)=true) (hr:∀ b W,Mem w0 ((b,ob)::M) W→wpList P ops Q rest (A.put o.dst (f b)) W):wpList P ops Q (o::rest) A w:=by
 refine wpList_step fun K hK=>?_
 rw[if_pos hgd]
 unfold Oper.wp
 rw[h]
 exact hK _ _ (hr _ _ (hM.new1 ob))
theorem wl_call (hM:Mem w0 M w) {f:FuncId} {args:Array Value} {v:Value} (h:∀ W,(execOp A.eval o).run P W=.ok (.enter f args) W) (hc:Calls P f args w fun e w'=>e=.returned v∧Below w.heap.size w w') (hgd:Region.wanted o (yielded ops A.tmps)=true) (hr:∀ W,Mem w0 M W→wpList P ops Q rest (A.put o.dst v) W):wpList P ops Q (o::rest) A w:=by
 refine wpList_step fun K hK=>?_
 rw[if_pos hgd]
 unfold Oper.wp
 rw[h]
 exact hc.mono fun e w' he=>by
  obtain⟨rfl,hb⟩:=he
  exact hK _ _ (hr _ (hM.calls hb))
theorem wl_callN (hM:Mem w0 M w) {f:FuncId} {args:Array Value} {v:Nat→Value} {ob:Obj} (h:∀ W,(execOp A.eval o).run P W=.ok (.enter f args) W) (hc:Calls P f args w fun e w'=>∃ g,e=.returned (v g)∧w'.heap[g]?=some ob∧w.heap.size≤g∧Below w.heap.size w w') (hgd:Region.wanted o (yielded ops A.tmps)=true) (hr:∀ g W,Mem w0 ((g,ob)::M) W→wpList P ops Q rest (A.put o.dst (v g)) W):wpList P ops Q (o::rest) A w:=by
 refine wpList_step fun K hK=>?_
 rw[if_pos hgd]
 unfold Oper.wp
 rw[h]
 exact hc.mono fun e w' he=>by
  obtain⟨g,rfl,hg,hl,hb⟩:=he
  exact hK _ _ (hr g _ (hM.news1 hb hl hg))
theorem wp_set (hM:Mem w0 M w) (i:Nat) {K:Act→World→Prop} {ty:TypeId} {x y:Operand} {b:Nat} {t:TypeId} {old cs:Array Value} (ho:o.op=.store ty x y) (hx:A.eval x=.pointer (some ⟨b,0,none⟩)) (hy:A.eval y=.agg cs) (hi:M[i]?=some (b,.cells old t (0,0))) (hT:RowTy P ty cs.size) (hs:old.size=cs.size) (h1:cs.all (·.oneCell')=true)
    (hr:∀ W,Mem w0 (M.set i (b,.cells cs t (0,0))) W→K (A.put o.dst undef) W):o.wp P A w K Q:=by
 obtain⟨_,h3⟩:=hT
 exact wp_store_row ty x y ho b cs hx hy t old (hM.get i hi) h3 hs h1 (hr _ (hM.set i hi))
theorem wl_set (hM:Mem w0 M w) (i:Nat) {ty:TypeId} {x y:Operand} {b:Nat} {t:TypeId} {old cs:Array Value} (ho:o.op=.store ty x y) (hx:A.eval x=.pointer (some ⟨b,0,none⟩)) (hy:A.eval y=.agg cs) (hi:M[i]?=some (b,.cells old t (0,0))) (hT:RowTy P ty cs.size) (hs:old.size=cs.size) (h1:cs.all (·.oneCell')=true)
    (hgd:o.guard=none) (hd:o.dst=none) (hr:∀ W,Mem w0 (M.set i (b,.cells cs t (0,0))) W→wpList P ops Q rest A W):wpList P ops Q (o::rest) A w :=
 wpList_plain hgd fun _ hK=>wp_set hM i ho hx hy hi hT hs h1 fun W hW=>by
  rw[hd]
  exact hK _ _ (hr W hW)
end
section
variable {P:Program} {ops:Array Oper} {w w0:World} {Q:Exit→Act→World→Prop} {o:Oper} {A:Act} {M:List Blk} {md:Region.Mode} {fuel:Nat} {listed:Array Bool}
/-- Behind a drawn region's first operations: a store, all others being behind it. -/
theorem any_set {n:Nat} (hr:Region.ready md ops listed=[n]) (hn:ops[n]?=some o) (hM:Mem w0 M w) (i:Nat) {ty:TypeId} {x y:Operand} {b:Nat} {t:TypeId} {old cs:Array Value} (ho:o.op=.store ty x y) (hx:A.eval x=.pointer (some ⟨b,0,none⟩)) (hy:A.eval y=.agg cs) (hi:M[i]?=some (b,.cells old t (0,0))) (hT:RowTy P ty cs.size) (hs:old.size=cs.size) (h1:cs.all (·.oneCell')=true)
    (hgd:o.guard=none) (hd:o.dst=none) (hk:∀ W,Mem w0 (M.set i (b,.cells cs t (0,0))) W→wpAny P md ops Q fuel (listed.setIfInBounds n true) A W):wpAny P md ops Q (fuel+1) listed A w :=
 any_one hr hn fun K hK=>by
  rw[if_pos (by simp[Region.wanted,hgd])]
  refine wp_set hM i ho hx hy hi hT hs h1 fun W hW=>?_
  rw[hd]
  exact hK _ _ (hk W hW)
theorem any_pure {n:Nat} {v:Value} {t:Tmp} (hr:Region.ready md ops listed=[n]) (hn:ops[n]?=some o) (h:∀ W,(execOp A.eval o).run P W=.ok (.value v) W) (hgd:o.guard=none) (hd:o.dst=some t) (hk:wpAny P md ops Q fuel (listed.setIfInBounds n true) (A.put (some t) v) w):wpAny P md ops Q (fuel+1) listed A w :=
 any_one hr hn fun K hK=>by
  rw[← hd] at hk
  rw[if_pos (by simp[Region.wanted,hgd])]
  unfold Oper.wp
  rw[h]
  exact hK _ _ hk
end
theorem Mem.drew {w0 w:World} {M:List Blk} (h:Mem w0 M w):Mem w0 M w.drew:=h.calls ⟨rfl,rfl,rfl,Nat.le_refl _,fun _ _=>rfl⟩
section
variable {P:Program} {ops:Array Oper} {w w0:World} {Q:Exit→Act→World→Prop} {o:Oper} {A:Act} {M:List Blk} {md:Region.Mode} {fuel:Nat} {listed:Array Bool} {S:World→Prop}
/-- In a region that neither calls nor makes: what reads comes first. -/
theorem hd_take (n:Nat) (d:Tmp) {v:Value} (L:Array Bool) (hL:listed.setIfInBounds n true=L) (hn:ops[n]?=some o) (hdd:o.dst=some d) (hs:Region.noSelect ops=true) (hf:Region.free md ops listed n=true) (hr:(Region.ready md ops listed).contains n=true) (hw:Region.wanted o (yielded ops A.tmps)=true) (hy:∀ W,S W→(execOp A.eval o).run P W=.ok (.value v) W) (hS:S w)
    (h:wpAnyH P md ops (NoPanic Q) S fuel L (A.put (some d) v) w):wpAnyH P md ops (NoPanic Q) S (fuel+1) listed A w :=
 wpAnyH_take hn hs hf hr (fun _ _ _ h=>h) (.inl ⟨hw,hy⟩) hS (by rw[hL,hdd];exact h)
theorem hd_row (n:Nat) (d:Tmp) {v:Value} {ty:TypeId} {x:Operand} {b:Nat} {t:TypeId} {cs:Array Value} {fr:Nat × Nat} (L:Array Bool) (hL:listed.setIfInBounds n true=L) (hn:ops[n]?=some o) (hdd:o.dst=some d) (ho:o.op=.load ty x) (hx:A.eval x=.pointer (some ⟨b,0,none⟩)) (hg:∀ W,S W→W.heap[b]?=some (.cells cs t fr)) (hv:v=.agg cs) (hT:RowTy P ty cs.size) (hs:Region.noSelect ops=true) (hf:Region.free md ops listed n=true) (hr:(Region.ready md ops listed).contains n=true) (hw:Region.wanted o (yielded ops A.tmps)=true) (hS:S w)
    (h:wpAnyH P md ops (NoPanic Q) S fuel L (A.put (some d) v) w):wpAnyH P md ops (NoPanic Q) S (fuel+1) listed A w:=by
 subst hv
 exact hd_take n d L hL hn hdd hs hf hr hw (fun W hW=>run_load_row ho hx (hg W hW) hT) hS h
theorem hd_part (n:Nat) (d:Tmp) {v:Value} {ty:TypeId} {x:Operand} {b off:Nat} {t:TypeId} {cs sub:Array Value} {fr:Nat × Nat} (L:Array Bool) (hL:listed.setIfInBounds n true=L) (hn:ops[n]?=some o) (hdd:o.dst=some d) (ho:o.op=.load ty x) (hx:A.eval x=.pointer (some ⟨b,off,none⟩)) (hg:∀ W,S W→W.heap[b]?=some (.cells cs t fr)) (hv:v=.agg sub) (hsub:(cs.toList.drop off).take sub.size=sub.toList) (hT:RowTy P ty sub.size) (hs:Region.noSelect ops=true) (hf:Region.free md ops listed n=true) (hr:(Region.ready md ops listed).contains n=true) (hw:Region.wanted o (yielded ops A.tmps)=true) (hS:S w)
    (h:wpAnyH P md ops (NoPanic Q) S fuel L (A.put (some d) v) w):wpAnyH P md ops (NoPanic Q) S (fuel+1) listed A w:=by
 subst hv
 exact hd_take n d L hL hn hdd hs hf hr hw (fun W hW=>run_load_part ho hx (hg W hW) hsub hT) hS h
theorem hd_set {n:Nat} (L:Array Bool) (hL:listed.setIfInBounds n true=L) (hr:Region.ready md ops listed=[n]) (hn:ops[n]?=some o) (hM:Mem w0 M w) (i:Nat) {ty:TypeId} {x y:Operand} {b:Nat} {t:TypeId} {old cs:Array Value} (ho:o.op=.store ty x y) (hx:A.eval x=.pointer (some ⟨b,0,none⟩)) (hy:A.eval y=.agg cs) (hi:M[i]?=some (b,.cells old t (0,0))) (hT:RowTy P ty cs.size) (hs:old.size=cs.size) (h1:cs.all (·.oneCell')=true)
    (hgd:o.guard=none) (hd:o.dst=none) (hSW:∀ W,Mem w0 (M.set i (b,.cells cs t (0,0))) W→S W) (hk:∀ W,Mem w0 (M.set i (b,.cells cs t (0,0))) W→wpAnyH P md ops Q S fuel L A W):wpAnyH P md ops Q S (fuel+1) listed A w :=
 wpAnyH_ready hr (by simp) fun j hj=>by
  obtain rfl:j=n:=by simpa using hj
  unfold wpOp
  simp only[hn]
  rw[if_pos (by simp[Region.wanted,hgd])]
  refine .inl (wp_set hM i ho hx hy hi hT hs h1 fun W hW=>?_)
  rw[hd]
  rw[hL]
  exact⟨hSW W hW,hk W hW⟩
end
theorem eql_elF (f:Nat) (w:World) (a b:Nat) (ha:a<B64^4) (hb:b<B64^4):(Op.equalIn (f+3) 36 (numV a) (numV b)).run Tryz.prog w=.ok (decide (a=b)) w:=by
 rw[← wd_same a b ha hb]
 unfold numV
 have hn:=fun w x0 x1 x2 x3 y0 y1 y2 y3=>eql_numF f w x0 x1 x2 x3 y0 y1 y2 y3
 rw[show f+3=(f+2)+1 from rfl,run_equalIn_struct w (f+2) 36 _ _ (by kernel_rfl) (by kernel_rfl)]
 have hp:∀ (a0 a1 a2 a3:Int) (w:World),(part 24 #[.int .u64 a0,.int .u64 a1,.int .u64 a2,.int .u64 a3] 0).run Tryz.prog w=.ok (.agg #[.int .u64 a0,.int .u64 a1,.int .u64 a2,.int .u64 a3]) w:=fun a0 a1 a2 a3 w=>by
  simp only[part]
  go_simp
 simp only[Program.fieldsOf,Tryz.underlying36]
 simp only[Op.eqFields,hp,hn]
 generalize (wd a 0:Int)=x0
 generalize (wd a 1:Int)=x1
 generalize (wd a 2:Int)=x2
 generalize (wd a 3:Int)=x3
 generalize (wd b 0:Int)=y0
 generalize (wd b 1:Int)=y1
 generalize (wd b 2:Int)=y2
 generalize (wd b 3:Int)=y3
 simp[Op.eqFields,hp,hn]
 by_cases h0:x0=y0 <;> by_cases h1:x1=y1 <;> by_cases h2:x2=y2 <;> by_cases h3:x3=y3 <;> simp[h0,h1,h2,h3]
theorem eql_arr (w:World) (X Y Z T X' Y' Z' T':Nat) (h0:X<B64^4) (h1:Y<B64^4) (h2:Z<B64^4) (h3:T<B64^4) (k0:X'<B64^4) (k1:Y'<B64^4) (k2:Z'<B64^4) (k3:T'<B64^4) :
    (Op.equalIn 9999 37 (ptV X Y Z T) (ptV X' Y' Z' T')).run Tryz.prog w=.ok (decide (X=X') && (decide (Y=Y') && (decide (Z=Z') && decide (T=T')))) w:=by
 have e0:=fun w=>eql_elF 9995 w X X' h0 k0
 have e1:=fun w=>eql_elF 9995 w Y Y' h1 k1
 have e2:=fun w=>eql_elF 9995 w Z Z' h2 k2
 have e3:=fun w=>eql_elF 9995 w T T' h3 k3
 rw[show (9999:Nat)=9998+1 from rfl,Op.equalIn]
 simp only[Sem.run_bind,run_underlying Tryz.underlying37,Result.andThen_ok,ptV]
 have hp:∀ (v:Nat) (k:Nat) (xs:Array Value) (w:World),(xs.toList.drop k).take 4=[.int .u64 (wd v 0:Int),.int .u64 (wd v 1:Int),.int .u64 (wd v 2:Int),.int .u64 (wd v 3:Int)]→(part 36 xs k).run Tryz.prog w=.ok (numV v) w:=fun v k xs w h=>by
  simp only[part]
  go_simp
  unfold numV
  refine congrArg Value.agg (Array.ext' ?_)
  rw[Array.toList_extract,List.extract_eq_take_drop,show k+4-k=4 by omega]
  exact h
 have hz:∀ w,(sizeOf 36).run Tryz.prog w=.ok 4 w:=Tryz.sizeOf36
 rw[hz]
 simp only[Result.andThen_ok]
 rw[Std.Legacy.Range.forIn_eq_forIn_range']
 simp[Std.Legacy.Range.size,List.range']
 have a0:=fun w=>hp X 0 (ptL X Y Z T).toArray w rfl
 have a1:=fun w=>hp Y 4 (ptL X Y Z T).toArray w rfl
 have a2:=fun w=>hp Z 8 (ptL X Y Z T).toArray w rfl
 have a3:=fun w=>hp T 12 (ptL X Y Z T).toArray w rfl
 have b0:=fun w=>hp X' 0 (ptL X' Y' Z' T').toArray w rfl
 have b1:=fun w=>hp Y' 4 (ptL X' Y' Z' T').toArray w rfl
 have b2:=fun w=>hp Z' 8 (ptL X' Y' Z' T').toArray w rfl
 have b3:=fun w=>hp T' 12 (ptL X' Y' Z' T').toArray w rfl
 simp only[a0,b0,a1,b1,a2,b2,a3,b3,e0,e1,e2,e3,Result.andThen_ok]
 generalize decide (X=X')=c0
 generalize decide (Y=Y')=c1
 generalize decide (Z=Z')=c2
 generalize decide (T=T')=c3
 cases c0 <;> cases c1 <;> cases c2 <;> cases c3 <;> simp
theorem bin_eql_pt (X Y Z T X' Y' Z' T':Nat) (x y:Operand) (w:World) (h0:X<B64^4) (h1:Y<B64^4) (h2:Z<B64^4) (h3:T<B64^4) (k0:X'<B64^4) (k1:Y'<B64^4) (k2:Z'<B64^4) (k3:T'<B64^4) :
    (do eqGuard .eql 39 x y (ptV X Y Z T) (ptV X' Y' Z' T');binOp .eql 39 (ptV X Y Z T) (ptV X' Y' Z' T'):Sem Value).run Tryz.prog w=.ok (.bool (decide (X=X') && (decide (Y=Y') && (decide (Z=Z') && decide (T=T'))))) w:=by
 have e:=fun w=>eql_arr w X Y Z T X' Y' Z' T' h0 h1 h2 h3 k0 k1 k2 k3
 have hq:∀ w,(Op.equalIn 10000 39 (ptV X Y Z T) (ptV X' Y' Z' T')).run Tryz.prog w=.ok (decide (X=X') && (decide (Y=Y') && (decide (Z=Z') && decide (T=T')))) w:=fun w=>by
  unfold ptV at e ⊢
  rw[show (10000:Nat)=9999+1 from rfl,run_equalIn_struct w 9999 39 _ _ (by kernel_rfl) (by kernel_rfl)]
  simp only[Program.fieldsOf,Tryz.underlying39]
  have hp:∀ (X Y Z T:Nat) (w:World),(part 37 (ptL X Y Z T).toArray 0).run Tryz.prog w=.ok (.agg (ptL X Y Z T).toArray) w:=fun X Y Z T w=>by
   simp only[part]
   unfold ptL
   go_simp
  generalize (decide (X=X') && (decide (Y=Y') && (decide (Z=Z') && decide (T=T'))))=E at e ⊢
  simp only[Op.eqFields]
  simp[hp,e]
  cases E <;> simp
 generalize (decide (X=X') && (decide (Y=Y') && (decide (Z=Z') && decide (T=T'))))=E at hq ⊢
 unfold ptV at hq ⊢
 generalize (ptL X Y Z T).toArray=A at *
 generalize (ptL X' Y' Z' T').toArray=B at *
 go_simp
def elR (n:Nat):Array Value:=#[.int .u64 (wd n 0:Int),.int .u64 (wd n 1:Int),.int .u64 (wd n 2:Int),.int .u64 (wd n 3:Int)]
def z4:Array Value:=#[.int .u64 0,.int .u64 0,.int .u64 0,.int .u64 0]
def z16:Array Value:=#[.int .u64 0,.int .u64 0,.int .u64 0,.int .u64 0,.int .u64 0,.int .u64 0,.int .u64 0,.int .u64 0,.int .u64 0,.int .u64 0,.int .u64 0,.int .u64 0,.int .u64 0,.int .u64 0,.int .u64 0,.int .u64 0]
theorem one_el (n:Nat):(elR n).all (·.oneCell')=true:=by simp[elR,Value.oneCell']
theorem one_pt (X Y Z T:Nat):(ptL X Y Z T).toArray.all (·.oneCell')=true:=by simp[ptL,Value.oneCell']
theorem rowEl:RowTy Tryz.prog 36 4:=⟨.inl ⟨_,Tryz.underlying36⟩,by kernel_rfl⟩
theorem rowPt:RowTy Tryz.prog 39 16:=⟨.inl ⟨_,Tryz.underlying39⟩,by kernel_rfl⟩
theorem rowAd:RowTy Tryz.prog 187 4:=⟨.inl ⟨_,Tryz.underlying187⟩,by kernel_rfl⟩
theorem bx_El (a:Nat) (W:World):(Instr.box 36 (numV a)).run Tryz.prog W=.ok (.pointer (some ⟨W.heap.size,0,none⟩)) (W.alloc (.cells (elR a) 36 (0,0))):=by
 unfold numV elR
 go_simp
theorem bx_Pt (X Y Z T:Nat) (W:World):(Instr.box 39 (ptV X Y Z T)).run Tryz.prog W=.ok (.pointer (some ⟨W.heap.size,0,none⟩)) (W.alloc (.cells (ptL X Y Z T).toArray 39 (0,0))):=by
 unfold ptV ptL
 go_simp
theorem bx_Ad (a:Nat) (W:World):(Instr.box 187 (numV a)).run Tryz.prog W=.ok (.pointer (some ⟨W.heap.size,0,none⟩)) (W.alloc (.cells (elR a) 187 (0,0))):=by
 unfold numV elR
 go_simp
theorem al_El (W:World):(Instr.alloc 36 true (.tuple #[])).run Tryz.prog W=.ok (.pointer (some ⟨W.heap.size,0,none⟩)) (W.alloc (.cells z4 36 (0,0))):=by
 unfold z4
 go_simp
theorem al_Ad (W:World):(Instr.alloc 187 true (.tuple #[])).run Tryz.prog W=.ok (.pointer (some ⟨W.heap.size,0,none⟩)) (W.alloc (.cells z4 187 (0,0))):=by
 unfold z4
 go_simp
theorem al_Pt (W:World):(Instr.alloc 39 true (.tuple #[])).run Tryz.prog W=.ok (.pointer (some ⟨W.heap.size,0,none⟩)) (W.alloc (.cells z16 39 (0,0))):=by
 unfold z16
 go_simp
theorem bs2 (a b:Nat) (W:World):(Instr.buildSlice 154 2 #[(0,numV a),(1,numV b)]).run Tryz.prog W=.ok (.slice (some ⟨W.heap.size,0,none⟩) 2 2) (W.alloc (.cells (elR a++elR b) 36 (0,0))):=by
 unfold numV elR
 go_simp
theorem bs3 (a b c:Nat) (W:World):(Instr.buildSlice 154 3 #[(0,numV a),(1,numV b),(2,numV c)]).run Tryz.prog W=.ok (.slice (some ⟨W.heap.size,0,none⟩) 3 3) (W.alloc (.cells (elR a++elR b++elR c) 36 (0,0))):=by
 unfold numV elR
 go_simp
theorem bd4 (a b c d:Nat) (W:World):(Instr.build 37 #[(0,numV a),(1,numV b),(2,numV c),(3,numV d)]).run Tryz.prog W=.ok (ptV a b c d) W:=by
 unfold numV ptV ptL
 go_simp
theorem bdP (a b c d:Nat) (W:World):(Instr.build 39 #[(0,ptV a b c d)]).run Tryz.prog W=.ok (ptV a b c d) W:=by
 unfold ptV ptL
 go_simp
theorem bdP0 (W:World):(Instr.build 39 #[]).run Tryz.prog W=.ok (.agg z16) W:=by
 unfold z16
 go_simp
theorem bdA (a:Nat) (W:World):(Instr.build 187 #[(0,numV a)]).run Tryz.prog W=.ok (numV a) W:=by
 unfold numV
 go_simp
theorem fa_Pt0 (b:Nat) (W:World):(Instr.fieldAt 39 (.pointer (some ⟨b,0,none⟩)) 0).run Tryz.prog W=.ok (.pointer (some ⟨b,0,none⟩)) W:=by
 go_simp
theorem fa_Ad0 (b:Nat) (W:World):(Instr.fieldAt 187 (.pointer (some ⟨b,0,none⟩)) 0).run Tryz.prog W=.ok (.pointer (some ⟨b,0,none⟩)) W:=by
 go_simp
theorem ix_P0 (b:Nat) (W:World):(Instr.indexAt 37 (.pointer (some ⟨b,0,none⟩)) (.int .i64 0)).run Tryz.prog W=.ok (.pointer (some ⟨b,0,none⟩)) W:=by
 go_simp
theorem ix_P1 (b:Nat) (W:World):(Instr.indexAt 37 (.pointer (some ⟨b,0,none⟩)) (.int .i64 1)).run Tryz.prog W=.ok (.pointer (some ⟨b,4,none⟩)) W:=by
 go_simp
theorem ix_P2 (b:Nat) (W:World):(Instr.indexAt 37 (.pointer (some ⟨b,0,none⟩)) (.int .i64 2)).run Tryz.prog W=.ok (.pointer (some ⟨b,8,none⟩)) W:=by
 go_simp
theorem ix_P3 (b:Nat) (W:World):(Instr.indexAt 37 (.pointer (some ⟨b,0,none⟩)) (.int .i64 3)).run Tryz.prog W=.ok (.pointer (some ⟨b,12,none⟩)) W:=by
 go_simp
theorem bin_eql_el (a b:Nat) (x y:Operand) (W:World) (ha:a<B64^4) (hb:b<B64^4):(do eqGuard .eql 36 x y (numV a) (numV b);binOp .eql 36 (numV a) (numV b):Sem Value).run Tryz.prog W=.ok (.bool (decide (a=b))) W:=by
 have h:=fun w=>eql_el a b w ha hb
 unfold numV
 go_simp
theorem bin_neq_el (a b:Nat) (x y:Operand) (W:World) (ha:a<B64^4) (hb:b<B64^4):(do eqGuard .neq 36 x y (numV a) (numV b);binOp .neq 36 (numV a) (numV b):Sem Value).run Tryz.prog W=.ok (.bool (!decide (a=b))) W:=by
 have h:=fun w=>eql_el a b w ha hb
 unfold numV
 go_simp
theorem bin_eql_nu (a b:Nat) (x y:Operand) (W:World) (ha:a<B64^4) (hb:b<B64^4):(do eqGuard .eql 24 x y (numV a) (numV b);binOp .eql 24 (numV a) (numV b):Sem Value).run Tryz.prog W=.ok (.bool (decide (a=b))) W:=by
 have h:=fun w=>eql_nu a b w ha hb
 unfold numV
 go_simp
theorem z16_is:(.agg z16:Value)=ptV 0 0 0 0:=by
 have h:∀ i,wd 0 i=0:=fun i=>by simp[wd]
 simp[ptV,ptL,z16,h]
theorem eq_pt_zero (X Y Z T:Nat) (x y:Operand) (w:World) (hX:X<PN) (hY:Y<PN) (hZ:Z<PN) (hT:T<PN) (hz:0<Z) :
    (do eqGuard .eql 39 x y (ptV X Y Z T) (.agg z16);binOp .eql 39 (ptV X Y Z T) (.agg z16):Sem Value).run Tryz.prog w=.ok (.bool false) w:=by
 rw[z16_is,bin_eql_pt X Y Z T 0 0 0 0 x y w (of_PN hX) (of_PN hY) (of_PN hZ) (of_PN hT) (by decide) (by decide) (by decide) (by decide)]
 have h:decide (Z=0)=false:=decide_eq_false (by omega)
 rw[h]
 simp
def IV (a:Nat):Nat:=a^(PN-2)%PN
theorem IV_lt (a:Nat):IV a<PN:=Nat.mod_lt _ PN_pos
theorem pinv_any' (a:Nat) (w:World) (ha:a<PN):Calls Tryz.prog 81 #[numV a] w fun e w'=>e=.returned (numV (IV a))∧Below w.heap.size w w':=pinv_any a w ha
theorem div_any' (a b:Nat) (w:World) (ha:a<PN) (hb:b<PN):Calls Tryz.prog 132 #[numV a,numV b] w fun e w'=>e=.returned (numV (a*IV b%PN))∧Below w.heap.size w w':=div_any a b w ha hb
theorem mul_three (p q r:Nat) (hp:p<PN) (hq:q<PN) (hr:r<PN) (b:Nat) (W:World) (h:W.heap[b]?=some (.cells (elR p++elR q++elR r) 36 (0,0))) :
    Calls Tryz.prog 76 #[.slice (some ⟨b,0,none⟩) 3 3] W fun e w'=>e=.returned (numV (p*q%PN*r%PN))∧Below W.heap.size W w':=by
 refine pmul_any (some ⟨b,0,none⟩) 3 3 [p,q,r] W (by omega) (by omega) ⟨rfl,fun n hn=>?_,fun _=>⟨b,rfl,lt_blk h,fun i k hi hk=>?_⟩⟩
 ·simp at hn
  rcases hn with rfl | rfl | rfl <;> assumption
 ·unfold elR at h
  have hi2:i=0∨i=1∨i=2:=by omega
  have hk4:k=0∨k=1∨k=2∨k=3:=by omega
  rcases hi2 with rfl | rfl | rfl <;> rcases hk4 with rfl | rfl | rfl | rfl <;> simp[World.cell?,h]
theorem psmall_any_ (a:Nat) (ha:a<18446744073709551616) (w:World):Calls Tryz.prog 34 #[.int .u64 (a:Int)] w fun e w'=>e=.returned (numV a)∧Below w.heap.size w w':=psmall_any a w ha
theorem mul_two' (p q:Nat) (hp:p<PN) (hq:q<PN) (b:Nat) (W:World) (h:W.heap[b]?=some (.cells (elR p++elR q) 36 (0,0))) :
    Calls Tryz.prog 76 #[.slice (some ⟨b,0,none⟩) 2 2] W fun e w'=>e=.returned (numV (p*q%PN))∧Below W.heap.size W w':=mul_two p q hp hq b W h
theorem add_two' (p q:Nat) (hp:p<PN) (hq:q<PN) (b:Nat) (W:World) (h:W.heap[b]?=some (.cells (elR p++elR q) 36 (0,0))) :
    Calls Tryz.prog 77 #[.slice (some ⟨b,0,none⟩) 2 2] W fun e w'=>e=.returned (numV ((p+q)%PN))∧Below W.heap.size W w':=add_two p q hp hq b W h
set_option maxRecDepth 20000 in
set_option maxHeartbeats 8000000 in
theorem at_any (a b:Nat) (w:World) (ha:a<PN) (hb:b<PN):Calls Tryz.prog 73 #[numV a,numV b] w fun E w'=>E=.returned (ptV a b 1 (a*b%PN))∧Below w.heap.size w w':=by
 have HMIX:=Lib.hid (show Tryz.prog.follows .mixedOrders=true by kernel_rfl)
 go_enter Tryz.func73,Tryz.ntmps73
 have hM0:=Mem.start w
 (go_step;go_step;refine wp_region_lit ?_)
 refine wl_new hM0 (f:=fun b=>.pointer (some ⟨b,0,none⟩)) (ob:=.cells (elR a) 36 (0,0)) (fun W=>run_box_of rfl rfl (bx_El a W)) rfl fun b1 W1 hM1=>?_
 simp only[nm0,nm1,nm2,nm3]
 refine wl_new hM1 (f:=fun b=>.pointer (some ⟨b,0,none⟩)) (ob:=.cells (elR b) 36 (0,0)) (fun W=>run_box_of rfl rfl (bx_El b W)) rfl fun b2 W2 hM2=>?_
 simp only[nm0,nm1,nm2,nm3]
 refine wl_new hM2 (f:=fun b=>.pointer (some ⟨b,0,none⟩)) (ob:=.cells z16 39 (0,0)) (fun W=>run_alloc_of rfl (al_Pt W)) rfl fun b3 W3 hM3=>?_
 simp only[nm0,nm1,nm2,nm3]
 refine wpList_nil ?_
 (go_step;go_step;go_step;refine wp_region_inw 9 HMIX.out (by decide) (by kernel_rfl) (by kernel_rfl) ?_)
 refine inw_row hM3 2 (v:=numV a) rfl rfl rfl rfl rowEl rfl rfl ?_;simp only[nm0,nm1,nm2,nm3]
 refine inw_row hM3 1 (v:=numV b) rfl rfl rfl rfl rowEl rfl rfl ?_;simp only[nm0,nm1,nm2,nm3]
 refine inw_callV (args:=#[.int .u64 1]) (v:=numV 1) (fun W=>run_call_fn W (enters_of Tryz.func34 rfl rfl) rfl (by simp[Act.eval])) (fun W _=>psmall_any_ 1 (by decide) W) rfl rfl ?_;simp only[nm0,nm1,nm2,nm3]
 refine inw_row hM3 2 (v:=numV a) rfl rfl rfl rfl rowEl rfl rfl ?_;simp only[nm0,nm1,nm2,nm3]
 refine inw_row hM3 1 (v:=numV b) rfl rfl rfl rfl rowEl rfl rfl ?_;simp only[nm0,nm1,nm2,nm3]
 refine inw_slice (n:=2) (L:=elR a++elR b) (T:=36) (fun W=>run_slice_of rfl (by simp[Act.eval]) (bs2 a b W)) rfl rfl ?_;simp only[List.nil_append,List.cons_append]
 obtain⟨v1,ev1⟩:∃ x,x=a*b%PN:=⟨_,rfl⟩
 have pv1:v1<PN:=by rw[ev1];exact Nat.mod_lt _ PN_pos
 have Kv1:=mul_two' a b ha hb
 rw[← ev1] at Kv1
 refine inw_callS 5 10 (v:=numV v1) rfl rfl (fun _=>rfl) (fun b W=>run_call_fn W (enters_of Tryz.func76 rfl rfl) rfl (by simp[Act.eval,Act.put])) (fun b W h=>Kv1 b W h) ?_;simp only[nm0,nm1,nm2,nm3]
 refine inw_pure (v:=ptV a b 1 v1) (fun W=>run_build_of rfl (by simp[Act.eval]) (bd4 a b 1 v1 W)) rfl rfl ?_;simp only[nm0,nm1,nm2,nm3]
 refine inw_pure (v:=ptV a b 1 v1) (fun W=>run_build_of rfl (by simp[Act.eval]) (bdP a b 1 v1 W)) rfl rfl ?_;simp only[nm0,nm1,nm2,nm3]
 refine inw_fin fun d os=>?_
 refine given_mk (t:=10) rfl fun s5=>?_
 refine given_nil fun hap=>?_
 simp only[nm0,nm1,nm2,nm3] at hap ⊢
 have hM4:=hM3.calls (below_regrown W3 d os)
 clear hap 
 generalize grow (redrawn W3 d) os=W4 at hM4 ⊢
 change wpAny _ _ _ _ 1 _ _ _
 refine any_set (n:=9) (by kernel_rfl) rfl hM4 0 (cs:=((ptL a b 1 v1).toArray)) rfl rfl rfl rfl rowPt rfl (one_pt a b 1 v1) rfl rfl fun W5 hM5=>?_
 simp only[nm2,nm3] at hM5
 refine wpAny_done (by kernel_rfl) ?_ _
 (go_step;go_step;go_step;refine bodyPost_ret (v:=ptV a b 1 v1) (results_arr Tryz.results73 rfl (hM5.load 0 rfl rowPt)) rfl ⟨?_,hM5.below⟩)
 exact by rw[ev1]
end Go.Proofs.YtnaldciakclccaaGreat
