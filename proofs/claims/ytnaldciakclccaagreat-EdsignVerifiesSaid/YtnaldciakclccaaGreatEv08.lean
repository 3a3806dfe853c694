/- Lemmas of this proof. -/
import Derived.Laws.Tables
import Derived.Laws.CopyOwn
import Derived.Laws.Rows
import Derived.Shelf.Abstract
import Derived.Test.YtnaldciakclccaaGreatEv07
namespace Go.Proofs.YtnaldciakclccaaGreat
set_option maxRecDepth 20000
set_option maxHeartbeats 8000000
set_option linter.unusedSimpArgs false
set_option linter.unusedVariables false
open Go.RowKit Go.Sort
abbrev Blk:=Nat × Obj
structure Mem (w0:World) (M:List Blk) (w:World):Prop where
 below:Below w0.heap.size w0 w
 low:∀ p ∈ M,w0.heap.size≤p.1
 nod:M.Pairwise (fun p q=>p.1≠q.1)
 at_:∀ p ∈ M,w.heap[p.1]?=some p.2
section
variable {w0 w w':World} {M:List Blk}
theorem Mem.start (w:World):Mem w [] w:=⟨Below.refl _ _,by simp,.nil,by simp⟩
theorem Mem.get (h:Mem w0 M w) (i:Nat) {b:Nat} {o:Obj} (hi:M[i]?=some (b,o)):w.heap[b]?=some o:=h.at_ (b,o) (List.mem_of_getElem? hi)
theorem Mem.calls (h:Mem w0 M w) (hb:Below w.heap.size w w'):Mem w0 M w' :=
 ⟨h.below.trans (hb.mono h.below.size),h.low,h.nod,fun p hp=>by
  have hg:=h.at_ p hp
  rw[hb.block p.1 (Array.getElem?_eq_some_iff.1 hg).1]
  exact hg⟩
theorem Mem.old (h:Mem w0 M w) {b:Nat} {o:Obj} (hb:w0.heap[b]?=some o):w.heap[b]?=some o:=by
 rw[h.below.block b (Array.getElem?_eq_some_iff.1 hb).1]
 exact hb
theorem Mem.lt (h:Mem w0 M w) {p:Blk} (hp:p ∈ M):p.1<w.heap.size:=(Array.getElem?_eq_some_iff.1 (h.at_ p hp)).1
theorem Mem.news (h:Mem w0 M w) (hb:Below w.heap.size w w') (L:List Blk) (hL:∀ p ∈ L,w.heap.size≤p.1∧w'.heap[p.1]?=some p.2) (hn:L.Pairwise (fun p q=>p.1≠q.1)):Mem w0 (L++M) w':=by
 have hk:=h.calls hb
 refine⟨hk.below,fun p hp=>?_,?_,fun p hp=>?_⟩
 ·rcases List.mem_append.1 hp with hp | hp
  ·exact Nat.le_trans h.below.size (hL p hp).1
  ·exact h.low p hp
 ·refine List.pairwise_append.2 ⟨hn,h.nod,fun p hp q hq e=>?_⟩
  have h1:=(hL p hp).1
  have h2:=h.lt hq
  omega
 ·rcases List.mem_append.1 hp with hp | hp
  ·exact (hL p hp).2
  ·exact hk.at_ p hp
theorem Mem.new1 (h:Mem w0 M w) (o:Obj):Mem w0 ((w.heap.size,o)::M) (w.alloc o) :=
 h.news (C9 w o).2 [(w.heap.size,o)] (fun p hp=>by
   rcases List.mem_singleton.1 hp with rfl
   exact⟨Nat.le_refl _,(C9 w o).1⟩) (by simp)
theorem Mem.news1 (h:Mem w0 M w) (hb:Below w.heap.size w w') {b1:Nat} {o1:Obj} (l1:w.heap.size≤b1) (g1:w'.heap[b1]?=some o1):Mem w0 ((b1,o1)::M) w' :=
 h.news hb [(b1,o1)] (fun p hp=>by
   rcases List.mem_singleton.1 hp with rfl
   exact⟨l1,g1⟩) (by simp)
theorem Mem.news2 (h:Mem w0 M w) (hb:Below w.heap.size w w') {b1 b2:Nat} {o1 o2:Obj} (l1:w.heap.size≤b1) (g1:w'.heap[b1]?=some o1) (l2:w.heap.size≤b2) (g2:w'.heap[b2]?=some o2) (n12:b1≠b2):Mem w0 ((b1,o1)::(b2,o2)::M) w' :=
 h.news hb [(b1,o1),(b2,o2)] (fun p hp=>by
   simp only[List.mem_cons,List.not_mem_nil,or_false] at hp
   rcases hp with rfl | rfl
   ·exact⟨l1,g1⟩
   ·exact⟨l2,g2⟩) (by simp[n12])
theorem Mem.news3 (h:Mem w0 M w) (hb:Below w.heap.size w w') {b1 b2 b3:Nat} {o1 o2 o3:Obj} (l1:w.heap.size≤b1) (g1:w'.heap[b1]?=some o1) (l2:w.heap.size≤b2) (g2:w'.heap[b2]?=some o2) (l3:w.heap.size≤b3) (g3:w'.heap[b3]?=some o3) (n12:b1≠b2) (n13:b1≠b3) (n23:b2≠b3):Mem w0 ((b1,o1)::(b2,o2)::(b3,o3)::M) w' :=
 h.news hb [(b1,o1),(b2,o2),(b3,o3)] (fun p hp=>by
   simp only[List.mem_cons,List.not_mem_nil,or_false] at hp
   rcases hp with rfl | rfl | rfl
   ·exact⟨l1,g1⟩
   ·exact⟨l2,g2⟩
   ·exact⟨l3,g3⟩) (by simp[n12,n13,n23])
theorem Mem.news4 (h:Mem w0 M w) (hb:Below w.heap.size w w') {b1 b2 b3 b4:Nat} {o1 o2 o3 o4:Obj} (l1:w.heap.size≤b1) (g1:w'.heap[b1]?=some o1) (l2:w.heap.size≤b2) (g2:w'.heap[b2]?=some o2) (l3:w.heap.size≤b3) (g3:w'.heap[b3]?=some o3) (l4:w.heap.size≤b4) (g4:w'.heap[b4]?=some o4)
    (n12:b1≠b2) (n13:b1≠b3) (n14:b1≠b4) (n23:b2≠b3) (n24:b2≠b4) (n34:b3≠b4):Mem w0 ((b1,o1)::(b2,o2)::(b3,o3)::(b4,o4)::M) w' :=
 h.news hb [(b1,o1),(b2,o2),(b3,o3),(b4,o4)] (fun p hp=>by
   simp only[List.mem_cons,List.not_mem_nil,or_false] at hp
   rcases hp with rfl | rfl | rfl | rfl
   ·exact⟨l1,g1⟩
   ·exact⟨l2,g2⟩
   ·exact⟨l3,g3⟩
   ·exact⟨l4,g4⟩) (by simp[n12,n13,n14,n23,n24,n34])
theorem Mem.set (h:Mem w0 M w) (i:Nat) {b:Nat} {old cs:Array Value} {t:TypeId} {fr:Nat × Nat} (hi:M[i]?=some (b,.cells old t fr)):Mem w0 (M.set i (b,.cells cs t fr)) (w.setRow b cs):=by
 have hlt:i<M.length:=(List.getElem?_eq_some_iff.1 hi).1
 have hval:M[i]=(b,.cells old t fr):=(List.getElem?_eq_some_iff.1 hi).2
 have hm:(b,Obj.cells old t fr) ∈ M:=List.mem_of_getElem? hi
 have hmap:(M.set i (b,.cells cs t fr)).map Prod.fst=M.map Prod.fst:=by
  rw[List.map_set]
  apply List.ext_getElem?
  intro j
  rw[List.getElem?_set]
  split
  ·rename_i e
   subst e
   rw[if_pos (by simpa using hlt),List.getElem?_map,hi]
   rfl
  ·rfl
 have hp':(M.map Prod.fst).Pairwise (·≠·):=List.pairwise_map.2 h.nod
 refine⟨below_setRow h.below (h.low _ hm) cs,fun p hp=>?_,?_,fun p hp=>?_⟩
 ·rcases List.mem_or_eq_of_mem_set hp with hp | rfl
  ·exact h.low p hp
  ·exact h.low (b,.cells old t fr) hm
 ·exact List.pairwise_map.1 (by rw[hmap];exact hp')
 ·obtain⟨j,hj⟩:=List.getElem?_of_mem hp
  rw[List.getElem?_set] at hj
  by_cases e:i=j
  ·subst e
   rw[if_pos rfl,if_pos hlt] at hj
   cases hj
   exact setRow_heap w b old cs t fr (h.get i hi)
  ·rw[if_neg e] at hj
   have hpM:p ∈ M:=List.mem_of_getElem? hj
   have hne:p.1≠b:=by
    have hn:=List.pairwise_iff_getElem.1 h.nod
    have hjl:j<M.length:=(List.getElem?_eq_some_iff.1 hj).1
    have hjv:M[j]=p:=(List.getElem?_eq_some_iff.1 hj).2
    rcases Nat.lt_or_gt_of_ne e with h1 | h1
    ·have:=hn i j hlt hjl h1
     rw[hval,hjv] at this
     exact fun e=>this e.symm
    ·have:=hn j i hjl hlt h1
     rw[hval,hjv] at this
     exact this
   rw[setRow_other w b p.1 cs hne]
   exact h.at_ p hpM
end
def De (P:Program) (ty:TypeId) (n:Nat):Prop:=((∃ fs,P.underlying ty=some (.struct fs))∨∃ l e,P.underlying ty=some (.array l e))∧(P.info? ty).map (·.size)=some n
theorem Mem.load {P:Program} {w0 w:World} {M:List Blk} (h:Mem w0 M w) (i:Nat) {b:Nat} {cs:Array Value} {t:TypeId} {fr:Nat × Nat} (hi:M[i]?=some (b,.cells cs t fr)) {ty:TypeId} (hT:De P ty cs.size):(loadVar ty ⟨b,0,none⟩).run P w=.ok (.agg cs) w:=by
 rcases hT with ⟨⟨fs,h1⟩ | ⟨l,e,h1⟩,h3⟩
 ·exact run_loadVar_row w b t ty cs fr _ (h.get i hi) h1 rfl h3
 ·exact run_loadVar_row w b t ty cs fr _ (h.get i hi) h1 rfl h3
theorem cG {P:Program} {w:World} {b:Nat} {cs:Array Value} {t:TypeId} {fr:Nat × Nat} (hi:w.heap[b]?=some (.cells cs t fr)) {ty:TypeId} (hT:De P ty cs.size):(loadVar ty ⟨b,0,none⟩).run P w=.ok (.agg cs) w:=by
 rcases hT with ⟨⟨fs,h1⟩ | ⟨l,e,h1⟩,h3⟩
 ·exact run_loadVar_row w b t ty cs fr _ hi h1 rfl h3
 ·exact run_loadVar_row w b t ty cs fr _ hi h1 rfl h3
theorem Wa {P:Program} {w:World} {b off:Nat} {cs sub:Array Value} {t:TypeId} {fr:Nat × Nat} (hi:w.heap[b]?=some (.cells cs t fr)) (hs:(cs.toList.drop off).take sub.size=sub.toList) {ty:TypeId} (hT:De P ty sub.size):(loadVar ty ⟨b,off,none⟩).run P w=.ok (.agg sub) w:=by
 have hl:(loadCells ⟨b,off,none⟩ sub.toList.length).run P w=.ok sub.toList.toArray w :=
  run_loadCells_list (P:=P) w ⟨b,off,none⟩ sub.toList (fun j v hv=>by
   have hadd:(⟨b,off,none⟩:Addr).add j=⟨b,off+j,none⟩:=by unfold Addr.add;split <;> simp_all
   rw[hadd,cell_of_row w b (off+j) cs t fr hi]
   rw[← hs] at hv
   have hj:j<sub.size:=by
    have:=(List.getElem?_eq_some_iff.1 hv).1
    rw[List.length_take] at this
    omega
   rw[List.getElem?_take_of_lt hj,List.getElem?_drop,Array.getElem?_toList] at hv
   exact hv)
 obtain⟨hk,h3⟩:=hT
 cases hq:P.info? ty with
 | none=>simp[hq] at h3
 | some i =>
   have hz:i.size=sub.size:=by simpa [hq] using h3
   have hagg:(isAgg ty).run P w=.ok true w:=by
    unfold isAgg
    rcases hk with ⟨fs,hu⟩ | ⟨l,e,hu⟩
    ·rw[Sem.run_bind,run_underlying hu w];rfl
    ·rw[Sem.run_bind,run_underlying hu w];rfl
   simp only[Array.length_toList,Array.toArray_toList] at hl
   simp[loadVar,Sem.run_bind,hagg,sizeOf,typeInfo,hq,hz,hl]
theorem CS {P:Program} {o:Oper} {A:Act} {w:World} {ty:TypeId} {x:Operand} {b off:Nat} {t:TypeId} {cs sub:Array Value} {fr:Nat × Nat} (ho:o.op=.load ty x) (hx:A.eval x=.pointer (some ⟨b,off,none⟩)) (hg:w.heap[b]?=some (.cells cs t fr)) (hs:(cs.toList.drop off).take sub.size=sub.toList) (hT:De P ty sub.size) :
    (execOp A.eval o).run P w=.ok (.value (.agg sub)) w:=by
 unfold execOp
 simp only[ho,hx,Instr.loadAt,Instr.sureAddr,Sem.run_bind,Sem.run_pure,Result.andThen_ok,Wa hg hs hT]
theorem Pf {P:Program} {fn:Func} {tmps:Array Value} {w:World} {v1 v2 v3 v4:Value} {a1 t1 b1 a2 t2 b2 a3 t3 b3 a4 t4 b4:Nat} (h:fn.results=#[.cell a1 t1,.cell a2 t2,.cell a3 t3,.cell a4 t4]) (h1:tmps.getD a1 undef=.pointer (some ⟨b1,0,none⟩)) (h2:tmps.getD a2 undef=.pointer (some ⟨b2,0,none⟩)) (h3:tmps.getD a3 undef=.pointer (some ⟨b3,0,none⟩)) (h4:tmps.getD a4 undef=.pointer (some ⟨b4,0,none⟩))
    (l1:(loadVar t1 ⟨b1,0,none⟩).run P w=.ok v1 w) (l2:(loadVar t2 ⟨b2,0,none⟩).run P w=.ok v2 w) (l3:(loadVar t3 ⟨b3,0,none⟩).run P w=.ok v3 w) (l4:(loadVar t4 ⟨b4,0,none⟩).run P w=.ok v4 w):(results fn tmps).run P w=.ok (.tuple #[v1,v2,v3,v4]) w:=by
 have g1:tmps[a1]?.getD undef=.pointer (some ⟨b1,0,none⟩):=by simpa using h1
 have g2:tmps[a2]?.getD undef=.pointer (some ⟨b2,0,none⟩):=by simpa using h2
 have g3:tmps[a3]?.getD undef=.pointer (some ⟨b3,0,none⟩):=by simpa using h3
 have g4:tmps[a4]?.getD undef=.pointer (some ⟨b4,0,none⟩):=by simpa using h4
 simp[results,h,g1,g2,g3,g4,asAddr,l1,l2,l3,l4]
theorem AY {P:Program} {fn:Func} {tmps:Array Value} {w:World} {u:Value} {s:Nat} (h:fn.results=#[.tmp s]) (hs:tmps.getD s undef=u):(results fn tmps).run P w=.ok u w:=by
 have h2:tmps[s]?.getD undef=u:=by simpa using hs
 simp[results,h,h2]
theorem AR {P:Program} {o:Oper} {A:Act} {f:FuncId} {args:Array Operand} {tys:Array TypeId} {vals:Array Value} (W:World) (hE:Enters P f) (ho:o.op=.call { callee:=.value (.func f),args:=args,argTypes:=tys }) (hv:args.map A.eval=vals):(execOp A.eval o).run P W=.ok (.enter f vals) W:=by
 have h:=hE vals W
 unfold execOp
 simp[ho,resolve,Deferred.ofValue,Act.eval,invoke,hv,h]
section
variable {P:Program} {o:Oper} {A:Act} {t:TypeId} {v u:Value} {W W':World} {x:Operand} {parts:Array (Nat × Operand)} {ps:Array (Nat × Value)}
theorem Ab (ho:o.op=.alloc t) (h:(Instr.alloc t true (.tuple #[])).run P W=.ok v W'):(execOp A.eval o).run P W=.ok (.value v) W':=by
 unfold execOp
 simp only[ho,Sem.run_bind,h,Result.andThen_ok]
 rfl
theorem AK (ho:o.op=.box t x) (hx:A.eval x=u) (h:(Instr.box t u).run P W=.ok v W'):(execOp A.eval o).run P W=.ok (.value v) W':=by
 unfold execOp
 simp only[ho,hx,Sem.run_bind,h,Result.andThen_ok]
 rfl
theorem Bq (ho:o.op=.build t parts) (hp:(parts.map fun (i,x)=>(i,A.eval x))=ps) (h:(Instr.build t ps).run P W=.ok v W'):(execOp A.eval o).run P W=.ok (.value v) W':=by
 unfold execOp
 simp only[ho,hp,Sem.run_bind,h,Result.andThen_ok]
 rfl
theorem Ax {n:Nat} (ho:o.op=.buildSlice t n parts) (hp:(parts.map fun (i,x)=>(i,A.eval x))=ps) (h:(Instr.buildSlice t n ps).run P W=.ok v W'):(execOp A.eval o).run P W=.ok (.value v) W':=by
 unfold execOp
 simp only[ho,hp,Sem.run_bind,h,Result.andThen_ok]
 rfl
theorem AJ {i:Nat} (ho:o.op=.fieldAddr t x i) (hx:A.eval x=u) (h:(Instr.fieldAt t u i).run P W=.ok v W'):(execOp A.eval o).run P W=.ok (.value v) W':=by
 unfold execOp
 simp only[ho,hx,Sem.run_bind,h,Result.andThen_ok]
 rfl
theorem Ar {y:Operand} {z:Value} (ho:o.op=.indexAddr t x y) (hx:A.eval x=u) (hy:A.eval y=z) (h:(Instr.indexAt t u z).run P W=.ok v W'):(execOp A.eval o).run P W=.ok (.value v) W':=by
 unfold execOp
 simp only[ho,hx,hy,Sem.run_bind,h,Result.andThen_ok]
 rfl
theorem Ag {op:BinOp} {y:Operand} {z:Value} {t':TypeId} (ho:o.op=.binOp op t x y t') (hx:A.eval x=u) (hy:A.eval y=z) (h:(do eqGuard op t x y u z;binOp op t u z:Sem Value).run P W=.ok v W'):(execOp A.eval o).run P W=.ok (.value v) W':=by
 unfold execOp
 simp only[ho,hx,hy]
 rw[Sem.run_bind,h]
 rfl
end
theorem GT {P:Program} {o:Oper} {A:Act} {w:World} {ty:TypeId} {x:Operand} {b:Nat} {t:TypeId} {cs:Array Value} {fr:Nat × Nat} (ho:o.op=.load ty x) (hx:A.eval x=.pointer (some ⟨b,0,none⟩)) (hg:w.heap[b]?=some (.cells cs t fr)) (hT:De P ty cs.size) :
    (execOp A.eval o).run P w=.ok (.value (.agg cs)) w:=by
 unfold execOp
 simp only[ho,hx,Instr.loadAt,Instr.sureAddr,Sem.run_bind,Sem.run_pure,Result.andThen_ok,cG hg hT]
section
variable {P:Program} {ops:Array Oper} {w0 w00:World} {Q:Act→World→Prop} {o:Oper} {rest:List Oper} {k:Nat} {A:Act} {Ps:List PkW} {ns:List Nat} {M:List Blk}
theorem Ao (hM:Mem w00 M w0) (i:Nat) {ty:TypeId} {x:Operand} {b:Nat} {t:TypeId} {cs:Array Value} {fr:Nat × Nat} {v:Value} (ho:o.op=.load ty x) (hx:A.eval x=.pointer (some ⟨b,0,none⟩)) (hi:M[i]?=some (b,.cells cs t fr)) (hv:v=.agg cs) (hT:De P ty cs.size)
    (hf:Ps.filter (BZ ops o)=[]) (hw:Region.wanted o (yielded ops A.tmps)=true) (hr:BO P ops w0 Q rest (k+1) (A.put o.dst v) Ps ns):BO P ops w0 Q (o::rest) k A Ps ns:=by
 subst hv
 exact Bp hf hw (fun d os=>GT ho hx ((hM.calls (below_regrown w0 d os)).get i hi) hT) hr
theorem BJ (hM:Mem w00 M w0) (i:Nat) {ty:TypeId} {x:Operand} {b off:Nat} {t:TypeId} {cs sub:Array Value} {fr:Nat × Nat} {v:Value} (ho:o.op=.load ty x) (hx:A.eval x=.pointer (some ⟨b,off,none⟩)) (hi:M[i]?=some (b,.cells cs t fr)) (hv:v=.agg sub) (hs:(cs.toList.drop off).take sub.size=sub.toList) (hT:De P ty sub.size)
    (hf:Ps.filter (BZ ops o)=[]) (hw:Region.wanted o (yielded ops A.tmps)=true) (hr:BO P ops w0 Q rest (k+1) (A.put o.dst v) Ps ns):BO P ops w0 Q (o::rest) k A Ps ns:=by
 subst hv
 exact Bp hf hw (fun d os=>CS ho hx ((hM.calls (below_regrown w0 d os)).get i hi) hs hT) hr
theorem As {v:Value} (h:∀ W,(execOp A.eval o).run P W=.ok (.value v) W)
    (hf:Ps.filter (BZ ops o)=[]) (hw:Region.wanted o (yielded ops A.tmps)=true) (hr:BO P ops w0 Q rest (k+1) (A.put o.dst v) Ps ns):BO P ops w0 Q (o::rest) k A Ps ns :=
 Bp hf hw (fun _ _=>h _) hr
theorem AX {n:Nat} {L:Array Value} {T:TypeId} (h:∀ W,(execOp A.eval o).run P W=.ok (.value (.slice (some ⟨W.heap.size,0,none⟩) n n)) (W.alloc (.cells L T (0,0))))
    (hf:Ps.filter (BZ ops o)=[]) (hw:Region.wanted o (yielded ops A.tmps)=true)
    (hr:BO P ops w0 Q rest (k+1) A (Ps++[(k,fun u w'=>∃ b,u=.slice (some ⟨b,0,none⟩) n n∧w'.heap[b]?=some (.cells L T (0,0)))]) ns):BO P ops w0 Q (o::rest) k A Ps ns :=
 GP (fun b=>.slice (some ⟨b,0,none⟩) n n) (.cells L T (0,0)) hf hw (fun _ _=>h _) hr
theorem Am {f:FuncId} {args:Array Value} {v:Value} (h:∀ W,(execOp A.eval o).run P W=.ok (.enter f args) W)
    (hc:∀ W,Below w0.heap.size w0 W→Calls P f args W fun e w'=>e=.returned v∧Below W.heap.size W w')
    (hf:Ps.filter (BZ ops o)=[]) (hw:Region.wanted o (yielded ops A.tmps)=true) (hr:BO P ops w0 Q rest (k+1) (A.put o.dst v) Ps ns):BO P ops w0 Q (o::rest) k A Ps ns :=
 Gw hf hw (fun _ _=>h _) (fun d os=>hc _ (below_regrown w0 d os)) hr
theorem A9 (j:Nat) (t:Tmp) {f:FuncId} {n:Nat} {L:Array Value} {T:TypeId} {v:Value} (hf:Ps.filter (BZ ops o)=[(j,fun u w'=>∃ b,u=.slice (some ⟨b,0,none⟩) n n∧w'.heap[b]?=some (.cells L T (0,0)))]) (hd:AW ops j=some t)
    (hw:∀ b,Region.wanted o (yielded ops (A.put (some t) (.slice (some ⟨b,0,none⟩) n n)).tmps)=true)
    (h:∀ b W,(execOp (A.put (some t) (.slice (some ⟨b,0,none⟩) n n)).eval o).run P W=.ok (.enter f #[.slice (some ⟨b,0,none⟩) n n]) W)
    (hc:∀ b W,W.heap[b]?=some (.cells L T (0,0))→Calls P f #[.slice (some ⟨b,0,none⟩) n n] W fun e w'=>e=.returned v∧Below W.heap.size W w')
    (hr:BO P ops w0 Q rest (k+1) (A.put o.dst v) Ps ns):BO P ops w0 Q (o::rest) k A Ps ns :=
 DQ (args:=fun b=>#[.slice (some ⟨b,0,none⟩) n n]) (v0:=fun b=>.slice (some ⟨b,0,none⟩) n n) hf hd hw (fun b _ _=>h b _) hc hr
theorem AO (h:∀ d os,Ct ops (grow (redrawn w0 d) os) Ps A (fun A=>Ko ops ns A→Q A (grow (redrawn w0 d) os))):BO P ops w0 Q [] k A Ps ns:=h
end
theorem Bb {ops:Array Oper} {w:World} {A:Act} {K:Act→Prop} {j:Nat} {t:Tmp} {v0:Nat→Value} {ob:Obj} {ps:List PkW} (hd:AW ops j=some t) (h:∀ b,Ct ops w ps (A.put (some t) (v0 b)) K):Ct ops w ((j,fun u w'=>∃ b,u=v0 b∧w'.heap[b]?=some ob)::ps) A K:=by
 rintro u ⟨b,rfl,_⟩
 show Ct ops w ps (A.put (AW ops j) (v0 b)) K
 rw[hd]
 exact h b
theorem Bm {ops:Array Oper} {w:World} {A:Act} {K:Act→Prop} {j:Nat} {t:Tmp} {B:Nat} {ob:Obj} {ps:List PkW} (hd:AW ops j=some t) (h:∀ b,B≤b→w.heap[b]?=some ob→Ct ops w ps (A.put (some t) (.pointer (some ⟨b,0,none⟩))) K):Ct ops w ((j,fun u w'=>∃ b,u=.pointer (some ⟨b,0,none⟩)∧B≤b∧w'.heap[b]?=some ob)::ps) A K:=by
 rintro u ⟨b,rfl,hB,hb⟩
 show Ct ops w ps (A.put (AW ops j) (.pointer (some ⟨b,0,none⟩))) K
 rw[hd]
 exact h b hB hb
theorem Az {ops:Array Oper} {w:World} {A:Act} {K:Act→Prop} (h:K A):Ct ops w [] A K:=h
theorem Ko.ne {ops:Array Oper} {ns:List Nat} {A:Act} (h:Ko ops ns A) (i j:Nat) (hi:ns.contains i=true) (hj:ns.contains j=true) (hne:(i == j)=false) {d d':Tmp} {b b':Nat} (e1:AW ops i=some d) (e2:AW ops j=some d') (e3:A.tmps[d]?=some (.pointer (some ⟨b,0,none⟩))) (e4:A.tmps[d']?=some (.pointer (some ⟨b',0,none⟩))):b≠b' :=
 h i (by simpa using hi) j (by simpa using hj) (by simpa using hne) d d' b b' e1 e2 e3 e4
section
variable {P:Program} {ops:Array Oper} {w w0:World} {Q:Exit→Act→World→Prop} {o:Oper} {rest:List Oper} {A:Act} {M:List Blk}
theorem AD (hM:Mem w0 M w) (i:Nat) {ty:TypeId} {x:Operand} {b:Nat} {t:TypeId} {cs:Array Value} {fr:Nat × Nat} {v:Value} (ho:o.op=.load ty x) (hx:A.eval x=.pointer (some ⟨b,0,none⟩)) (hi:M[i]?=some (b,.cells cs t fr)) (hv:v=.agg cs) (hT:De P ty cs.size)
    (hgd:Region.wanted o (yielded ops A.tmps)=true) (hr:wpList P ops Q rest (A.put o.dst v) w):wpList P ops Q (o::rest) A w:=by
 subst hv
 refine wpList_step fun K hK=>?_
 rw[if_pos hgd]
 unfold Oper.wp
 rw[GT ho hx (hM.get i hi) hT]
 exact hK _ _ hr
theorem Hd (hM:Mem w0 M w) (i:Nat) {ty:TypeId} {x:Operand} {b off:Nat} {t:TypeId} {cs sub:Array Value} {fr:Nat × Nat} {v:Value} (ho:o.op=.load ty x) (hx:A.eval x=.pointer (some ⟨b,off,none⟩)) (hi:M[i]?=some (b,.cells cs t fr)) (hv:v=.agg sub) (hs:(cs.toList.drop off).take sub.size=sub.toList) (hT:De P ty sub.size)
    (hgd:Region.wanted o (yielded ops A.tmps)=true) (hr:wpList P ops Q rest (A.put o.dst v) w):wpList P ops Q (o::rest) A w:=by
 subst hv
 refine wpList_step fun K hK=>?_
 rw[if_pos hgd]
 unfold Oper.wp
 rw[CS ho hx (hM.get i hi) hs hT]
 exact hK _ _ hr
theorem IR {ty:TypeId} {x:Operand} {b off:Nat} {t:TypeId} {cs sub:Array Value} {fr:Nat × Nat} {v:Value} (hg:w.heap[b]?=some (.cells cs t fr)) (ho:o.op=.load ty x) (hx:A.eval x=.pointer (some ⟨b,off,none⟩)) (hv:v=.agg sub) (hs:(cs.toList.drop off).take sub.size=sub.toList) (hT:De P ty sub.size)
    (hgd:Region.wanted o (yielded ops A.tmps)=true) (hr:wpList P ops Q rest (A.put o.dst v) w):wpList P ops Q (o::rest) A w:=by
 subst hv
 refine wpList_step fun K hK=>?_
 rw[if_pos hgd]
 unfold Oper.wp
 rw[CS ho hx hg hs hT]
 exact hK _ _ hr
theorem Ac {v:Value} (h:∀ W,(execOp A.eval o).run P W=.ok (.value v) W) (hgd:Region.wanted o (yielded ops A.tmps)=true) (hr:wpList P ops Q rest (A.put o.dst v) w):wpList P ops Q (o::rest) A w:=by
 refine wpList_step fun K hK=>?_
 rw[if_pos hgd]
 unfold Oper.wp
 rw[h]
 exact hK _ _ hr
theorem FN (hM:Mem w0 M w) {f:Nat→Value} {ob:Obj} (h:∀ W,(execOp A.eval o).run P W=.ok (.value (f W.heap.size)) (W.alloc ob)) (hgd:Region.wanted o (yielded ops A.tmps)=true) (hr:∀ b W,Mem w0 ((b,ob)::M) W→wpList P ops Q rest (A.put o.dst (f b)) W):wpList P ops Q (o::rest) A w:=by
 refine wpList_step fun K hK=>?_
 rw[if_pos hgd]
 unfold Oper.wp
 rw[h]
 exact hK _ _ (hr _ _ (hM.new1 ob))
theorem Ah (hM:Mem w0 M w) {f:FuncId} {args:Array Value} {v:Value} (h:∀ W,(execOp A.eval o).run P W=.ok (.enter f args) W) (hc:Calls P f args w fun e w'=>e=.returned v∧Below w.heap.size w w') (hgd:Region.wanted o (yielded ops A.tmps)=true) (hr:∀ W,Mem w0 M W→wpList P ops Q rest (A.put o.dst v) W):wpList P ops Q (o::rest) A w:=by
 refine wpList_step fun K hK=>?_
 rw[if_pos hgd]
 unfold Oper.wp
 rw[h]
 exact hc.mono fun e w' he=>by
  obtain⟨rfl,hb⟩:=he
  exact hK _ _ (hr _ (hM.calls hb))
theorem YV (hM:Mem w0 M w) {f:FuncId} {args:Array Value} {v:Nat→Value} {ob:Obj} (h:∀ W,(execOp A.eval o).run P W=.ok (.enter f args) W) (hc:Calls P f args w fun e w'=>∃ g,e=.returned (v g)∧w'.heap[g]?=some ob∧w.heap.size≤g∧Below w.heap.size w w') (hgd:Region.wanted o (yielded ops A.tmps)=true) (hr:∀ g W,Mem w0 ((g,ob)::M) W→wpList P ops Q rest (A.put o.dst (v g)) W):wpList P ops Q (o::rest) A w:=by
 refine wpList_step fun K hK=>?_
 rw[if_pos hgd]
 unfold Oper.wp
 rw[h]
 exact hc.mono fun e w' he=>by
  obtain⟨g,rfl,hg,hl,hb⟩:=he
  exact hK _ _ (hr g _ (hM.news1 hb hl hg))
theorem Dg (hw:Region.wanted o (yielded ops A.tmps)=false) (hr:wpList P ops Q rest (A.put o.dst undef) w):wpList P ops Q (o::rest) A w:=by
 refine wpList_step fun K hK=>?_
 rw[if_neg (by rw[hw];decide)]
 exact hK _ _ hr
theorem RT (hM:Mem w0 M w) (i:Nat) {K:Act→World→Prop} {ty:TypeId} {x y:Operand} {b:Nat} {t:TypeId} {old cs:Array Value} (ho:o.op=.store ty x y) (hx:A.eval x=.pointer (some ⟨b,0,none⟩)) (hy:A.eval y=.agg cs) (hi:M[i]?=some (b,.cells old t (0,0))) (hT:De P ty cs.size) (hs:old.size=cs.size) (h1:cs.all (·.oneCell')=true)
    (hr:∀ W,Mem w0 (M.set i (b,.cells cs t (0,0))) W→K (A.put o.dst undef) W):o.wp P A w K Q:=by
 obtain⟨_,h3⟩:=hT
 exact wp_store_row ty x y ho b cs hx hy t old (hM.get i hi) h3 hs h1 (hr _ (hM.set i hi))
theorem Av (hM:Mem w0 M w) (i:Nat) {ty:TypeId} {x y:Operand} {b:Nat} {t:TypeId} {old cs:Array Value} (ho:o.op=.store ty x y) (hx:A.eval x=.pointer (some ⟨b,0,none⟩)) (hy:A.eval y=.agg cs) (hi:M[i]?=some (b,.cells old t (0,0))) (hT:De P ty cs.size) (hs:old.size=cs.size) (h1:cs.all (·.oneCell')=true)
    (hgd:o.guard=none) (hd:o.dst=none) (hr:∀ W,Mem w0 (M.set i (b,.cells cs t (0,0))) W→wpList P ops Q rest A W):wpList P ops Q (o::rest) A w :=
 wpList_plain hgd fun _ hK=>RT hM i ho hx hy hi hT hs h1 fun W hW=>by
  rw[hd]
  exact hK _ _ (hr W hW)
end
section
variable {P:Program} {ops:Array Oper} {w w0:World} {Q:Exit→Act→World→Prop} {o:Oper} {A:Act} {M:List Blk} {md:Region.Mode} {fuel:Nat} {listed:Array Bool}
theorem A7 {n:Nat} (hr:Region.ready md ops listed=[n]) (hn:ops[n]?=some o) (hM:Mem w0 M w) (i:Nat) {ty:TypeId} {x y:Operand} {b:Nat} {t:TypeId} {old cs:Array Value} (ho:o.op=.store ty x y) (hx:A.eval x=.pointer (some ⟨b,0,none⟩)) (hy:A.eval y=.agg cs) (hi:M[i]?=some (b,.cells old t (0,0))) (hT:De P ty cs.size) (hs:old.size=cs.size) (h1:cs.all (·.oneCell')=true)
    (hgd:o.guard=none) (hd:o.dst=none) (hk:∀ W,Mem w0 (M.set i (b,.cells cs t (0,0))) W→wpAny P md ops Q fuel (listed.setIfInBounds n true) A W):wpAny P md ops Q (fuel+1) listed A w :=
 Ej hr hn fun K hK=>by
  rw[if_pos (by simp[Region.wanted,hgd])]
  refine RT hM i ho hx hy hi hT hs h1 fun W hW=>?_
  rw[hd]
  exact hK _ _ (hk W hW)
theorem QZ {n:Nat} {v:Value} {t:Tmp} (hr:Region.ready md ops listed=[n]) (hn:ops[n]?=some o) (h:∀ W,(execOp A.eval o).run P W=.ok (.value v) W) (hgd:o.guard=none) (hd:o.dst=some t) (hk:wpAny P md ops Q fuel (listed.setIfInBounds n true) (A.put (some t) v) w):wpAny P md ops Q (fuel+1) listed A w :=
 Ej hr hn fun K hK=>by
  rw[← hd] at hk
  rw[if_pos (by simp[Region.wanted,hgd])]
  unfold Oper.wp
  rw[h]
  exact hK _ _ hk
end
theorem Mem.drew {w0 w:World} {M:List Blk} (h:Mem w0 M w):Mem w0 M w.drew:=h.calls ⟨rfl,rfl,rfl,Nat.le_refl _,fun _ _=>rfl⟩
section
variable {P:Program} {ops:Array Oper} {w w0:World} {Q:Exit→Act→World→Prop} {o:Oper} {A:Act} {M:List Blk} {md:Region.Mode} {fuel:Nat} {listed:Array Bool} {S:World→Prop}
theorem Dm (n:Nat) (d:Tmp) {v:Value} (L:Array Bool) (hL:listed.setIfInBounds n true=L) (hn:ops[n]?=some o) (hdd:o.dst=some d) (hs:Region.noSelect ops=true) (hf:Region.free md ops listed n=true) (hr:(Region.ready md ops listed).contains n=true) (hw:Region.wanted o (yielded ops A.tmps)=true) (hy:∀ W,S W→(execOp A.eval o).run P W=.ok (.value v) W) (hS:S w)
    (h:wpAnyH P md ops (NoPanic Q) S fuel L (A.put (some d) v) w):wpAnyH P md ops (NoPanic Q) S (fuel+1) listed A w :=
 wpAnyH_take hn hs hf hr (fun _ _ _ h=>h) (.inl ⟨hw,hy⟩) hS (by rw[hL,hdd];exact h)
theorem Ka (n:Nat) (d:Tmp) {v:Value} {ty:TypeId} {x:Operand} {b:Nat} {t:TypeId} {cs:Array Value} {fr:Nat × Nat} (L:Array Bool) (hL:listed.setIfInBounds n true=L) (hn:ops[n]?=some o) (hdd:o.dst=some d) (ho:o.op=.load ty x) (hx:A.eval x=.pointer (some ⟨b,0,none⟩)) (hg:∀ W,S W→W.heap[b]?=some (.cells cs t fr)) (hv:v=.agg cs) (hT:De P ty cs.size) (hs:Region.noSelect ops=true) (hf:Region.free md ops listed n=true) (hr:(Region.ready md ops listed).contains n=true) (hw:Region.wanted o (yielded ops A.tmps)=true) (hS:S w)
    (h:wpAnyH P md ops (NoPanic Q) S fuel L (A.put (some d) v) w):wpAnyH P md ops (NoPanic Q) S (fuel+1) listed A w:=by
 subst hv
 exact Dm n d L hL hn hdd hs hf hr hw (fun W hW=>GT ho hx (hg W hW) hT) hS h
theorem Lj (n:Nat) (d:Tmp) {v:Value} {ty:TypeId} {x:Operand} {b off:Nat} {t:TypeId} {cs sub:Array Value} {fr:Nat × Nat} (L:Array Bool) (hL:listed.setIfInBounds n true=L) (hn:ops[n]?=some o) (hdd:o.dst=some d) (ho:o.op=.load ty x) (hx:A.eval x=.pointer (some ⟨b,off,none⟩)) (hg:∀ W,S W→W.heap[b]?=some (.cells cs t fr)) (hv:v=.agg sub) (hsub:(cs.toList.drop off).take sub.size=sub.toList) (hT:De P ty sub.size) (hs:Region.noSelect ops=true) (hf:Region.free md ops listed n=true) (hr:(Region.ready md ops listed).contains n=true) (hw:Region.wanted o (yielded ops A.tmps)=true) (hS:S w)
    (h:wpAnyH P md ops (NoPanic Q) S fuel L (A.put (some d) v) w):wpAnyH P md ops (NoPanic Q) S (fuel+1) listed A w:=by
 subst hv
 exact Dm n d L hL hn hdd hs hf hr hw (fun W hW=>CS ho hx (hg W hW) hsub hT) hS h
theorem GL {n:Nat} (L:Array Bool) (hL:listed.setIfInBounds n true=L) (hr:Region.ready md ops listed=[n]) (hn:ops[n]?=some o) (hM:Mem w0 M w) (i:Nat) {ty:TypeId} {x y:Operand} {b:Nat} {t:TypeId} {old cs:Array Value} (ho:o.op=.store ty x y) (hx:A.eval x=.pointer (some ⟨b,0,none⟩)) (hy:A.eval y=.agg cs) (hi:M[i]?=some (b,.cells old t (0,0))) (hT:De P ty cs.size) (hs:old.size=cs.size) (h1:cs.all (·.oneCell')=true)
    (hgd:o.guard=none) (hd:o.dst=none) (hSW:∀ W,Mem w0 (M.set i (b,.cells cs t (0,0))) W→S W) (hk:∀ W,Mem w0 (M.set i (b,.cells cs t (0,0))) W→wpAnyH P md ops Q S fuel L A W):wpAnyH P md ops Q S (fuel+1) listed A w :=
 wpAnyH_ready hr (by simp) fun j hj=>by
  obtain rfl:j=n:=by simpa using hj
  unfold wpOp
  simp only[hn]
  rw[if_pos (by simp[Region.wanted,hgd])]
  refine .inl (RT hM i ho hx hy hi hT hs h1 fun W hW=>?_)
  rw[hd]
  rw[hL]
  exact⟨hSW W hW,hk W hW⟩
end
theorem Ad {P:Program} {w:World} {ops:Array Oper} {Q:Exit→Act→World→Prop} {o:Oper} {rest:List Oper} {A:Act} (v:Value) (hr:wpList P ops Q rest (A.put o.dst v) w) (h:∀ W,(execOp A.eval o).run P W=.ok (.value v) W:=by exact fun _=>rfl) (hgd:Region.wanted o (yielded ops A.tmps)=true:=by rfl):wpList P ops Q (o::rest) A w:=Ac h hgd hr
theorem AM {P:Program} {ops:Array Oper} {w0:World} {Q:Act→World→Prop} {o:Oper} {rest:List Oper} {k:Nat} {A:Act} {Ps:List PkW} {ns:List Nat} (v:Value) (hr:BO P ops w0 Q rest (k+1) (A.put o.dst v) Ps ns) (h:∀ W,(execOp A.eval o).run P W=.ok (.value v) W:=by exact fun _=>rfl) (hf:Ps.filter (BZ ops o)=[]:=by rfl) (hw:Region.wanted o (yielded ops A.tmps)=true:=by rfl):BO P ops w0 Q (o::rest) k A Ps ns:=As h hf hw hr
theorem At {P:Program} {w w0:World} {M:List Blk} {ops:Array Oper} {Q:Exit→Act→World→Prop} {o:Oper} {rest:List Oper} {A:Act} (hM:Mem w0 M w) {ob:Obj} (h:∀ W,(execOp A.eval o).run P W=.ok (.value (.pointer (some ⟨W.heap.size,0,none⟩))) (W.alloc ob)) (hgd:Region.wanted o (yielded ops A.tmps)=true) (hr:∀ b W,Mem w0 ((b,ob)::M) W→wpList P ops Q rest (A.put o.dst (.pointer (some ⟨b,0,none⟩))) W):wpList P ops Q (o::rest) A w:=FN hM (f:=fun b=>.pointer (some ⟨b,0,none⟩)) h hgd hr
theorem rcf {P:Program} {o:Oper} {A:Act} {f:FuncId} {args:Array Operand} {tys:Array TypeId} {vals:Array Value} (hE:Enters P f) (ho:o.op=.call { callee:=.value (.func f),args:=args,argTypes:=tys }:=by rfl) (hv:args.map A.eval=vals:=by simp[Act.eval]) (W:World):(execOp A.eval o).run P W=.ok (.enter f vals) W:=AR W hE ho hv
theorem K8 (f:Nat) (w:World) (a b:Nat) (ha:a<B64^4) (hb:b<B64^4):(Op.equalIn (f+3) 36 (Aa a) (Aa b)).run Tryz.prog w=.ok (decide (a=b)) w:=by
 rw[← Ld a b ha hb]
 unfold Aa
 have hn:=fun w x0 x1 x2 x3 y0 y1 y2 y3=>MN f w x0 x1 x2 x3 y0 y1 y2 y3
 rw[show f+3=(f+2)+1 from rfl,run_equalIn_struct w (f+2) 36 _ _ (by kernel_rfl) (by kernel_rfl)]
 have hp:∀ (a0 a1 a2 a3:Int) (w:World),(part 24 #[.int .u64 a0,.int .u64 a1,.int .u64 a2,.int .u64 a3] 0).run Tryz.prog w=.ok (.agg #[.int .u64 a0,.int .u64 a1,.int .u64 a2,.int .u64 a3]) w:=fun a0 a1 a2 a3 w=>by
  simp only[part]
  go_simp
 simp only[Program.fieldsOf,Tryz.underlying36]
 simp only[Op.eqFields,hp,hn]
 generalize (wd a 0:Int)=x0
 generalize (wd a 1:Int)=x1
 generalize (wd a 2:Int)=x2
 generalize (wd a 3:Int)=x3
 generalize (wd b 0:Int)=y0
 generalize (wd b 1:Int)=y1
 generalize (wd b 2:Int)=y2
 generalize (wd b 3:Int)=y3
 simp[Op.eqFields,hp,hn]
 by_cases h0:x0=y0 <;> by_cases h1:x1=y1 <;> by_cases h2:x2=y2 <;> by_cases h3:x3=y3 <;> simp[h0,h1,h2,h3]
theorem bT (w:World) (X Y Z T X' Y' Z' T':Nat) (h0:X<B64^4) (h1:Y<B64^4) (h2:Z<B64^4) (h3:T<B64^4) (k0:X'<B64^4) (k1:Y'<B64^4) (k2:Z'<B64^4) (k3:T'<B64^4) :
    (Op.equalIn 9999 37 (ptV X Y Z T) (ptV X' Y' Z' T')).run Tryz.prog w=.ok (decide (X=X') && (decide (Y=Y') && (decide (Z=Z') && decide (T=T')))) w:=by
 have e0:=fun w=>K8 9995 w X X' h0 k0
 have e1:=fun w=>K8 9995 w Y Y' h1 k1
 have e2:=fun w=>K8 9995 w Z Z' h2 k2
 have e3:=fun w=>K8 9995 w T T' h3 k3
 rw[show (9999:Nat)=9998+1 from rfl,Op.equalIn]
 simp only[Sem.run_bind,run_underlying Tryz.underlying37,Result.andThen_ok,ptV]
 have hp:∀ (v:Nat) (k:Nat) (xs:Array Value) (w:World),(xs.toList.drop k).take 4=[.int .u64 (wd v 0:Int),.int .u64 (wd v 1:Int),.int .u64 (wd v 2:Int),.int .u64 (wd v 3:Int)]→(part 36 xs k).run Tryz.prog w=.ok (Aa v) w:=fun v k xs w h=>by
  simp only[part]
  go_simp
  unfold Aa
  refine congrArg Value.agg (Array.ext' ?_)
  rw[Array.toList_extract,List.extract_eq_take_drop,show k+4-k=4 by omega]
  exact h
 have hz:∀ w,(sizeOf 36).run Tryz.prog w=.ok 4 w:=Tryz.sizeOf36
 rw[hz]
 simp only[Result.andThen_ok]
 rw[Std.Legacy.Range.forIn_eq_forIn_range']
 simp[Std.Legacy.Range.size,List.range']
 have a0:=fun w=>hp X 0 (ptL X Y Z T).toArray w rfl
 have a1:=fun w=>hp Y 4 (ptL X Y Z T).toArray w rfl
 have a2:=fun w=>hp Z 8 (ptL X Y Z T).toArray w rfl
 have a3:=fun w=>hp T 12 (ptL X Y Z T).toArray w rfl
 have b0:=fun w=>hp X' 0 (ptL X' Y' Z' T').toArray w rfl
 have b1:=fun w=>hp Y' 4 (ptL X' Y' Z' T').toArray w rfl
 have b2:=fun w=>hp Z' 8 (ptL X' Y' Z' T').toArray w rfl
 have b3:=fun w=>hp T' 12 (ptL X' Y' Z' T').toArray w rfl
 simp only[a0,b0,a1,b1,a2,b2,a3,b3,e0,e1,e2,e3,Result.andThen_ok]
 generalize decide (X=X')=c0
 generalize decide (Y=Y')=c1
 generalize decide (Z=Z')=c2
 generalize decide (T=T')=c3
 cases c0 <;> cases c1 <;> cases c2 <;> cases c3 <;> simp
theorem Tb (X Y Z T X' Y' Z' T':Nat) (x y:Operand) (w:World) (h0:X<B64^4) (h1:Y<B64^4) (h2:Z<B64^4) (h3:T<B64^4) (k0:X'<B64^4) (k1:Y'<B64^4) (k2:Z'<B64^4) (k3:T'<B64^4) :
    (do eqGuard .eql 39 x y (ptV X Y Z T) (ptV X' Y' Z' T');binOp .eql 39 (ptV X Y Z T) (ptV X' Y' Z' T'):Sem Value).run Tryz.prog w=.ok (.bool (decide (X=X') && (decide (Y=Y') && (decide (Z=Z') && decide (T=T'))))) w:=by
 have e:=fun w=>bT w X Y Z T X' Y' Z' T' h0 h1 h2 h3 k0 k1 k2 k3
 have hq:∀ w,(Op.equalIn 10000 39 (ptV X Y Z T) (ptV X' Y' Z' T')).run Tryz.prog w=.ok (decide (X=X') && (decide (Y=Y') && (decide (Z=Z') && decide (T=T')))) w:=fun w=>by
  unfold ptV at e ⊢
  rw[show (10000:Nat)=9999+1 from rfl,run_equalIn_struct w 9999 39 _ _ (by kernel_rfl) (by kernel_rfl)]
  simp only[Program.fieldsOf,Tryz.underlying39]
  have hp:∀ (X Y Z T:Nat) (w:World),(part 37 (ptL X Y Z T).toArray 0).run Tryz.prog w=.ok (.agg (ptL X Y Z T).toArray) w:=fun X Y Z T w=>by
   simp only[part]
   unfold ptL
   go_simp
  generalize (decide (X=X') && (decide (Y=Y') && (decide (Z=Z') && decide (T=T'))))=E at e ⊢
  simp only[Op.eqFields]
  simp[hp,e]
  cases E <;> simp
 generalize (decide (X=X') && (decide (Y=Y') && (decide (Z=Z') && decide (T=T'))))=E at hq ⊢
 unfold ptV at hq ⊢
 generalize (ptL X Y Z T).toArray=A at *
 generalize (ptL X' Y' Z' T').toArray=B at *
 go_simp
def elR (n:Nat):Array Value:=#[.int .u64 (wd n 0:Int),.int .u64 (wd n 1:Int),.int .u64 (wd n 2:Int),.int .u64 (wd n 3:Int)]
def z4:Array Value:=#[.int .u64 0,.int .u64 0,.int .u64 0,.int .u64 0]
def z16:Array Value:=#[.int .u64 0,.int .u64 0,.int .u64 0,.int .u64 0,.int .u64 0,.int .u64 0,.int .u64 0,.int .u64 0,.int .u64 0,.int .u64 0,.int .u64 0,.int .u64 0,.int .u64 0,.int .u64 0,.int .u64 0,.int .u64 0]
theorem Ay (n:Nat):(elR n).all (·.oneCell')=true:=by simp[elR,Value.oneCell']
theorem G6 (X Y Z T:Nat):(ptL X Y Z T).toArray.all (·.oneCell')=true:=by simp[ptL,Value.oneCell']
theorem Aw:De Tryz.prog 36 4:=⟨.inl ⟨_,Tryz.underlying36⟩,by kernel_rfl⟩
theorem AS:De Tryz.prog 39 16:=⟨.inl ⟨_,Tryz.underlying39⟩,by kernel_rfl⟩
theorem eJ:De Tryz.prog 187 4:=⟨.inl ⟨_,Tryz.underlying187⟩,by kernel_rfl⟩
theorem Ro (a:Nat) (W:World):(Instr.box 36 (Aa a)).run Tryz.prog W=.ok (.pointer (some ⟨W.heap.size,0,none⟩)) (W.alloc (.cells (elR a) 36 (0,0))):=by
 unfold Aa elR
 go_simp
theorem L8 (X Y Z T:Nat) (W:World):(Instr.box 39 (ptV X Y Z T)).run Tryz.prog W=.ok (.pointer (some ⟨W.heap.size,0,none⟩)) (W.alloc (.cells (ptL X Y Z T).toArray 39 (0,0))):=by
 unfold ptV ptL
 go_simp
theorem iW (a:Nat) (W:World):(Instr.box 187 (Aa a)).run Tryz.prog W=.ok (.pointer (some ⟨W.heap.size,0,none⟩)) (W.alloc (.cells (elR a) 187 (0,0))):=by
 unfold Aa elR
 go_simp
theorem Bk (W:World):(Instr.alloc 36 true (.tuple #[])).run Tryz.prog W=.ok (.pointer (some ⟨W.heap.size,0,none⟩)) (W.alloc (.cells z4 36 (0,0))):=by
 unfold z4
 go_simp
theorem iu (W:World):(Instr.alloc 187 true (.tuple #[])).run Tryz.prog W=.ok (.pointer (some ⟨W.heap.size,0,none⟩)) (W.alloc (.cells z4 187 (0,0))):=by
 unfold z4
 go_simp
theorem Ew (W:World):(Instr.alloc 39 true (.tuple #[])).run Tryz.prog W=.ok (.pointer (some ⟨W.heap.size,0,none⟩)) (W.alloc (.cells z16 39 (0,0))):=by
 unfold z16
 go_simp
theorem bs2 (a b:Nat) (W:World):(Instr.buildSlice 154 2 #[(0,Aa a),(1,Aa b)]).run Tryz.prog W=.ok (.slice (some ⟨W.heap.size,0,none⟩) 2 2) (W.alloc (.cells (elR a++elR b) 36 (0,0))):=by
 unfold Aa elR
 go_simp
theorem bs3 (a b c:Nat) (W:World):(Instr.buildSlice 154 3 #[(0,Aa a),(1,Aa b),(2,Aa c)]).run Tryz.prog W=.ok (.slice (some ⟨W.heap.size,0,none⟩) 3 3) (W.alloc (.cells (elR a++elR b++elR c) 36 (0,0))):=by
 unfold Aa elR
 go_simp
theorem bd4 (a b c d:Nat) (W:World):(Instr.build 37 #[(0,Aa a),(1,Aa b),(2,Aa c),(3,Aa d)]).run Tryz.prog W=.ok (ptV a b c d) W:=by
 unfold Aa ptV ptL
 go_simp
theorem bdP (a b c d:Nat) (W:World):(Instr.build 39 #[(0,ptV a b c d)]).run Tryz.prog W=.ok (ptV a b c d) W:=by
 unfold ptV ptL
 go_simp
theorem jf (W:World):(Instr.build 39 #[]).run Tryz.prog W=.ok (.agg z16) W:=by
 unfold z16
 go_simp
theorem bdA (a:Nat) (W:World):(Instr.build 187 #[(0,Aa a)]).run Tryz.prog W=.ok (Aa a) W:=by
 unfold Aa
 go_simp
theorem Om (b:Nat) (W:World):(Instr.fieldAt 39 (.pointer (some ⟨b,0,none⟩)) 0).run Tryz.prog W=.ok (.pointer (some ⟨b,0,none⟩)) W:=by
 go_simp
theorem ge (b:Nat) (W:World):(Instr.fieldAt 187 (.pointer (some ⟨b,0,none⟩)) 0).run Tryz.prog W=.ok (.pointer (some ⟨b,0,none⟩)) W:=by
 go_simp
theorem iK (b:Nat) (W:World):(Instr.indexAt 37 (.pointer (some ⟨b,0,none⟩)) (.int .i64 0)).run Tryz.prog W=.ok (.pointer (some ⟨b,0,none⟩)) W:=by
 go_simp
theorem iA (b:Nat) (W:World):(Instr.indexAt 37 (.pointer (some ⟨b,0,none⟩)) (.int .i64 1)).run Tryz.prog W=.ok (.pointer (some ⟨b,4,none⟩)) W:=by
 go_simp
theorem iD (b:Nat) (W:World):(Instr.indexAt 37 (.pointer (some ⟨b,0,none⟩)) (.int .i64 2)).run Tryz.prog W=.ok (.pointer (some ⟨b,8,none⟩)) W:=by
 go_simp
theorem iX (b:Nat) (W:World):(Instr.indexAt 37 (.pointer (some ⟨b,0,none⟩)) (.int .i64 3)).run Tryz.prog W=.ok (.pointer (some ⟨b,12,none⟩)) W:=by
 go_simp
theorem Mq (a b:Nat) (x y:Operand) (W:World) (ha:a<B64^4) (hb:b<B64^4):(do eqGuard .eql 36 x y (Aa a) (Aa b);binOp .eql 36 (Aa a) (Aa b):Sem Value).run Tryz.prog W=.ok (.bool (decide (a=b))) W:=by
 have h:=fun w=>Ly a b w ha hb
 unfold Aa
 go_simp
theorem SI (a b:Nat) (x y:Operand) (W:World) (ha:a<B64^4) (hb:b<B64^4):(do eqGuard .neq 36 x y (Aa a) (Aa b);binOp .neq 36 (Aa a) (Aa b):Sem Value).run Tryz.prog W=.ok (.bool (!decide (a=b))) W:=by
 have h:=fun w=>Ly a b w ha hb
 unfold Aa
 go_simp
theorem gj:(.agg z16:Value)=ptV 0 0 0 0:=by
 have h:∀ i,wd 0 i=0:=fun i=>by simp[wd]
 simp[ptV,ptL,z16,h]
theorem Sj (X Y Z T:Nat) (x y:Operand) (w:World) (hX:X<PN) (hY:Y<PN) (hZ:Z<PN) (hT:T<PN) (hz:0<Z) :
    (do eqGuard .eql 39 x y (ptV X Y Z T) (.agg z16);binOp .eql 39 (ptV X Y Z T) (.agg z16):Sem Value).run Tryz.prog w=.ok (.bool false) w:=by
 rw[gj,Tb X Y Z T 0 0 0 0 x y w (Bv hX) (Bv hY) (Bv hZ) (Bv hT) (by decide) (by decide) (by decide) (by decide)]
 have h:decide (Z=0)=false:=decide_eq_false (by omega)
 rw[h]
 simp
def IV (a:Nat):Nat:=a^(PN-2)%PN
theorem Mv (a:Nat):IV a<PN:=Nat.mod_lt _ Au
theorem Nf (a:Nat) (w:World) (ha:a<PN):Calls Tryz.prog 81 #[Aa a] w fun e w'=>e=.returned (Aa (IV a))∧Below w.heap.size w w':=Rm a w ha
theorem QU (a b:Nat) (w:World) (ha:a<PN) (hb:b<PN):Calls Tryz.prog 132 #[Aa a,Aa b] w fun e w'=>e=.returned (Aa (a*IV b%PN))∧Below w.heap.size w w':=TH a b w ha hb
theorem Nz (p q r:Nat) (hp:p<PN) (hq:q<PN) (hr:r<PN) (b:Nat) (W:World) (h:W.heap[b]?=some (.cells (elR p++elR q++elR r) 36 (0,0))) :
    Calls Tryz.prog 76 #[.slice (some ⟨b,0,none⟩) 3 3] W fun e w'=>e=.returned (Aa (p*q%PN*r%PN))∧Below W.heap.size W w':=by
 refine Rg (some ⟨b,0,none⟩) 3 3 [p,q,r] W (by omega) (by omega) ⟨rfl,fun n hn=>?_,fun _=>⟨b,rfl,AU h,fun i k hi hk=>?_⟩⟩
 ·simp at hn
  rcases hn with rfl | rfl | rfl <;> assumption
 ·unfold elR at h
  have hi2:i=0∨i=1∨i=2:=by omega
  have hk4:k=0∨k=1∨k=2∨k=3:=by omega
  rcases hi2 with rfl | rfl | rfl <;> rcases hk4 with rfl | rfl | rfl | rfl <;> simp[World.cell?,h]
theorem Cq (a:Nat) (ha:a<18446744073709551616) (w:World):Calls Tryz.prog 34 #[.int .u64 (a:Int)] w fun e w'=>e=.returned (Aa a)∧Below w.heap.size w w':=EZ a w ha
theorem Ck (p q:Nat) (hp:p<PN) (hq:q<PN) (b:Nat) (W:World) (h:W.heap[b]?=some (.cells (elR p++elR q) 36 (0,0))) :
    Calls Tryz.prog 76 #[.slice (some ⟨b,0,none⟩) 2 2] W fun e w'=>e=.returned (Aa (p*q%PN))∧Below W.heap.size W w':=mul_two p q hp hq b W h
theorem Ee (p q:Nat) (hp:p<PN) (hq:q<PN) (b:Nat) (W:World) (h:W.heap[b]?=some (.cells (elR p++elR q) 36 (0,0))) :
    Calls Tryz.prog 77 #[.slice (some ⟨b,0,none⟩) 2 2] W fun e w'=>e=.returned (Aa ((p+q)%PN))∧Below W.heap.size W w':=bA p q hp hq b W h
theorem Sp (a b:Nat) (w:World) (ha:a<PN) (hb:b<PN):Calls Tryz.prog 73 #[Aa a,Aa b] w fun E w'=>E=.returned (ptV a b 1 (a*b%PN))∧Below w.heap.size w w':=by
 have HMIX:=Lh (show Tryz.prog.follows .mixedOrders=true by kernel_rfl)
 go_enter Tryz.func73,Tryz.ntmps73
 have hM0:=Mem.start w
 (go_step;go_step;refine wp_region_lit ?_)
 refine At hM0 (ob:=.cells (elR a) 36 (0,0)) (fun W=>AK rfl rfl (Ro a W)) rfl fun b1 W1 hM1=>?_
 simp only[nmA]
 refine At hM1 (ob:=.cells (elR b) 36 (0,0)) (fun W=>AK rfl rfl (Ro b W)) rfl fun b2 W2 hM2=>?_
 simp only[nmA]
 refine At hM2 (ob:=.cells z16 39 (0,0)) (fun W=>Ab rfl (Ew W)) rfl fun b3 W3 hM3=>?_
 simp only[nmA]
 refine wpList_nil ?_
 ((iterate 3 go_step);refine Ak 9 HMIX.out (by decide) (by kernel_rfl) (by kernel_rfl) ?_)
 refine Ao hM3 2 (v:=Aa a) rfl rfl rfl rfl Aw rfl rfl ?_;simp only[nmA]
 refine Ao hM3 1 (v:=Aa b) rfl rfl rfl rfl Aw rfl rfl ?_;simp only[nmA]
 refine Am (args:=#[.int .u64 1]) (v:=Aa 1) (rcf (enters_of Tryz.func34 rfl rfl)) (fun W _=>Cq 1 (by decide) W) rfl rfl ?_;simp only[nmA]
 refine Ao hM3 2 (v:=Aa a) rfl rfl rfl rfl Aw rfl rfl ?_;simp only[nmA]
 refine Ao hM3 1 (v:=Aa b) rfl rfl rfl rfl Aw rfl rfl ?_;simp only[nmA]
 refine AX (n:=2) (L:=elR a++elR b) (T:=36) (fun W=>Ax rfl (by simp[Act.eval]) (bs2 a b W)) rfl rfl ?_;simp only[List.nil_append,List.cons_append]
 obtain⟨v1,ev1⟩:=exza (a*b%PN)
 have pv1:v1<PN:=by rw[ev1];exact Nat.mod_lt _ Au
 have Kv1:=Ck a b ha hb
 rw[← ev1] at Kv1
 refine A9 5 10 (v:=Aa v1) rfl rfl (fun _=>rfl) (fun b W=>AR W (enters_of Tryz.func76 rfl rfl) rfl (by simp[Act.eval,Act.put])) (fun b W h=>Kv1 b W h) ?_;simp only[nmA]
 refine As (v:=ptV a b 1 v1) (fun W=>Bq rfl (by simp[Act.eval]) (bd4 a b 1 v1 W)) rfl rfl ?_;simp only[nmA]
 refine As (v:=ptV a b 1 v1) (fun W=>Bq rfl (by simp[Act.eval]) (bdP a b 1 v1 W)) rfl rfl ?_;simp only[nmA]
 refine AO fun d os=>?_
 refine Bb (t:=10) rfl fun s5=>?_
 refine Az fun hap=>?_
 simp only[nmA] at hap ⊢
 have hM4:=hM3.calls (below_regrown W3 d os)
 clear hap 
 generalize grow (redrawn W3 d) os=W4 at hM4 ⊢
 change wpAny _ _ _ _ 1 _ _ _
 refine A7 (n:=9) (by kernel_rfl) rfl hM4 0 (cs:=((ptL a b 1 v1).toArray)) rfl rfl rfl rfl AS rfl (G6 a b 1 v1) rfl rfl fun W5 hM5=>?_
 simp only[nm2,nm3] at hM5
 refine wpAny_done (by kernel_rfl) ?_ _
 ((iterate 3 go_step);refine bodyPost_ret (v:=ptV a b 1 v1) (Ap Tryz.results73 rfl (hM5.load 0 rfl AS)) rfl ⟨?_,hM5.below⟩)
 exact by rw[ev1]
theorem Qk (w:World):Calls Tryz.prog 27 #[] w fun E w'=>E=.returned (ptV 0 1 1 0)∧Below w.heap.size w w':=by
 go_enter Tryz.func27,Tryz.ntmps27
 have hM0:=Mem.start w
 (go_step;go_step;refine wp_region_lit ?_)
 refine At hM0 (ob:=.cells z16 39 (0,0)) (fun W=>Ab rfl (Ew W)) rfl fun b1 W1 hM1=>?_
 simp only[nmA]
 refine wpList_nil ?_
 ((iterate 3 go_step);refine wp_region_lit ?_)
 refine Ah hM1 (args:=#[.int .u64 0]) (v:=Aa 0) (rcf (enters_of Tryz.func34 rfl rfl)) (Cq 0 (by decide) W1) rfl fun W2 hM2=>?_
 simp only[nmA]
 refine Ah hM2 (args:=#[.int .u64 1]) (v:=Aa 1) (rcf (enters_of Tryz.func34 rfl rfl)) (Cq 1 (by decide) W2) rfl fun W3 hM3=>?_
 simp only[nmA]
 obtain⟨v1,ev1⟩:=exza (0*1%PN)
 have pv1:v1<PN:=by rw[ev1];exact Nat.mod_lt _ Au
 have KA:=fun W=>Sp 0 1 W (by decide +kernel) (by decide +kernel)
 simp only[← ev1] at KA
 refine Ah hM3 (args:=#[Aa 0,Aa 1]) (v:=ptV 0 1 1 v1) (rcf (enters_of Tryz.func73 rfl rfl)) (KA W3) rfl fun W4 hM4=>?_
 simp only[nmA]
 refine Av hM4 0 (cs:=((ptL 0 1 1 v1).toArray)) rfl rfl rfl rfl AS rfl (G6 0 1 1 v1) rfl rfl fun W5 hM5=>?_
 simp only[nm2,nm3] at hM5
 refine wpList_nil ?_
 ((iterate 3 go_step);refine bodyPost_ret (v:=ptV 0 1 1 v1) (Ap Tryz.results27 rfl (hM5.load 0 rfl AS)) rfl ⟨?_,hM5.below⟩)
 exact by rw[ev1,show 0*1%PN=0 from by decide +kernel]
theorem Jy (w:World):Calls Tryz.prog 156 #[] w fun E w'=>E=.returned (Aa dN)∧Below w.heap.size w w':=by
 go_enter Tryz.func156,Tryz.ntmps156
 have hM0:=Mem.start w
 (go_step;go_step;refine wp_region_lit ?_)
 refine At hM0 (ob:=.cells z4 187 (0,0)) (fun W=>Ab rfl (iu W)) rfl fun b1 W1 hM1=>?_
 simp only[nmA]
 refine wpList_nil ?_
 ((iterate 3 go_step);refine wp_region_lit ?_)
 refine Ah hM1 (args:=#[]) (v:=Aa dN) (rcf (enters_of Tryz.func78 rfl rfl)) (MQ W1) rfl fun W2 hM2=>?_
 simp only[nmA]
 refine Ac (v:=Aa dN) (fun W=>Bq rfl (by simp[Act.eval]) (bdA dN W)) rfl ?_
 simp only[nmA]
 refine Av hM2 0 (cs:=(elR dN)) rfl rfl rfl rfl eJ rfl (Ay dN) rfl rfl fun W3 hM3=>?_
 simp only[nm2,nm3] at hM3
 refine wpList_nil ?_
 ((iterate 3 go_step);refine bodyPost_ret (v:=Aa dN) (Ap Tryz.results156 rfl (hM3.load 0 rfl eJ)) rfl ⟨?_,hM3.below⟩)
 exact rfl
theorem Fr (X Y Z T:Nat) (hX:X<PN) (hY:Y<PN) (hZ:Z<PN) (hT:T<PN) (hzZ:0<Z) (w:World):Calls Tryz.prog 82 #[ptV X Y Z T] w fun E w'=>E=.returned (.tuple #[Aa X,Aa Y,Aa Z,Aa T])∧Below w.heap.size w w':=by
 have HMIX:=Lh (show Tryz.prog.follows .mixedOrders=true by kernel_rfl)
 go_enter Tryz.func82,Tryz.ntmps82
 have hM0:=Mem.start w
 (go_step;go_step;refine wp_region_lit ?_)
 refine At hM0 (ob:=.cells ((ptL X Y Z T).toArray) 39 (0,0)) (fun W=>AK rfl rfl (L8 X Y Z T W)) rfl fun b1 W1 hM1=>?_
 simp only[nmA]
 refine At hM1 (ob:=.cells z4 36 (0,0)) (fun W=>Ab rfl (Bk W)) rfl fun b2 W2 hM2=>?_
 simp only[nmA]
 refine At hM2 (ob:=.cells z4 36 (0,0)) (fun W=>Ab rfl (Bk W)) rfl fun b3 W3 hM3=>?_
 simp only[nmA]
 refine At hM3 (ob:=.cells z4 36 (0,0)) (fun W=>Ab rfl (Bk W)) rfl fun b4 W4 hM4=>?_
 simp only[nmA]
 refine At hM4 (ob:=.cells z4 36 (0,0)) (fun W=>Ab rfl (Bk W)) rfl fun b5 W5 hM5=>?_
 simp only[nmA]
 refine wpList_nil ?_
 ((iterate 4 go_step);refine wp_region_lit ?_)
 refine AD hM5 4 (v:=ptV X Y Z T) rfl rfl rfl rfl AS rfl ?_
 simp only[nmA]
 refine Ac (v:=.agg z16) (fun W=>Bq rfl (by simp[Act.eval]) (jf W)) rfl ?_
 simp only[nmA]
 refine Ac (v:=.bool false) (fun W=>Ag rfl rfl rfl (Sj X Y Z T _ _ W hX hY hZ hT hzZ)) rfl ?_
 simp only[nmA]
 refine wpList_nil ?_
 have hMd:=hM5.drew
 ((iterate 7 go_step);refine wp_region_noPanic (wp_region_held_drew HMIX.out (S:=fun w1=>w1.heap[b1]?=some (.cells ((ptL X Y Z T).toArray) 39 (0,0))) (hMd.get 4 rfl) fun hS=>?_))
 change wpAnyH _ _ _ _ _ 16 _ _ _
 generalize W5.drew=W6 at hMd hS ⊢
 have hM6:=hMd
 clear hMd
 refine Dm 0 10 #[true,false,false,false,false,false,false,false,false,false,false,false,false,false,false,false] (by kernel_rfl) (v:=.pointer (some ⟨b1,0,none⟩)) rfl rfl (by kernel_rfl) (by kernel_rfl) (by kernel_rfl) rfl (fun W _=>AJ rfl rfl (Om b1 W)) hS ?_
 simp only[nmA]
 refine Dm 1 11 #[true,true,false,false,false,false,false,false,false,false,false,false,false,false,false,false] (by kernel_rfl) (v:=.pointer (some ⟨b1,0,none⟩)) rfl rfl (by kernel_rfl) (by kernel_rfl) (by kernel_rfl) rfl (fun W _=>Ar rfl rfl rfl (iK b1 W)) hS ?_
 simp only[nmA]
 refine Lj 2 12 #[true,true,true,false,false,false,false,false,false,false,false,false,false,false,false,false] (by kernel_rfl) (v:=Aa X) (cs:=((ptL X Y Z T).toArray)) (sub:=elR X) (b:=b1) rfl rfl rfl rfl (fun W hW=>hW) rfl rfl Aw (by kernel_rfl) (by kernel_rfl) (by kernel_rfl) rfl hS ?_
 simp only[nmA]
 refine Dm 3 13 #[true,true,true,true,false,false,false,false,false,false,false,false,false,false,false,false] (by kernel_rfl) (v:=.pointer (some ⟨b1,0,none⟩)) rfl rfl (by kernel_rfl) (by kernel_rfl) (by kernel_rfl) rfl (fun W _=>AJ rfl rfl (Om b1 W)) hS ?_
 simp only[nmA]
 refine Dm 4 14 #[true,true,true,true,true,false,false,false,false,false,false,false,false,false,false,false] (by kernel_rfl) (v:=.pointer (some ⟨b1,4,none⟩)) rfl rfl (by kernel_rfl) (by kernel_rfl) (by kernel_rfl) rfl (fun W _=>Ar rfl rfl rfl (iA b1 W)) hS ?_
 simp only[nmA]
 refine Lj 5 15 #[true,true,true,true,true,true,false,false,false,false,false,false,false,false,false,false] (by kernel_rfl) (v:=Aa Y) (cs:=((ptL X Y Z T).toArray)) (sub:=elR Y) (b:=b1) rfl rfl rfl rfl (fun W hW=>hW) rfl rfl Aw (by kernel_rfl) (by kernel_rfl) (by kernel_rfl) rfl hS ?_
 simp only[nmA]
 refine Dm 6 16 #[true,true,true,true,true,true,true,false,false,false,false,false,false,false,false,false] (by kernel_rfl) (v:=.pointer (some ⟨b1,0,none⟩)) rfl rfl (by kernel_rfl) (by kernel_rfl) (by kernel_rfl) rfl (fun W _=>AJ rfl rfl (Om b1 W)) hS ?_
 simp only[nmA]
 refine Dm 7 17 #[true,true,true,true,true,true,true,true,false,false,false,false,false,false,false,false] (by kernel_rfl) (v:=.pointer (some ⟨b1,8,none⟩)) rfl rfl (by kernel_rfl) (by kernel_rfl) (by kernel_rfl) rfl (fun W _=>Ar rfl rfl rfl (iD b1 W)) hS ?_
 simp only[nmA]
 refine Lj 8 18 #[true,true,true,true,true,true,true,true,true,false,false,false,false,false,false,false] (by kernel_rfl) (v:=Aa Z) (cs:=((ptL X Y Z T).toArray)) (sub:=elR Z) (b:=b1) rfl rfl rfl rfl (fun W hW=>hW) rfl rfl Aw (by kernel_rfl) (by kernel_rfl) (by kernel_rfl) rfl hS ?_
 simp only[nmA]
 refine Dm 9 19 #[true,true,true,true,true,true,true,true,true,true,false,false,false,false,false,false] (by kernel_rfl) (v:=.pointer (some ⟨b1,0,none⟩)) rfl rfl (by kernel_rfl) (by kernel_rfl) (by kernel_rfl) rfl (fun W _=>AJ rfl rfl (Om b1 W)) hS ?_
 simp only[nmA]
 refine Dm 10 20 #[true,true,true,true,true,true,true,true,true,true,true,false,false,false,false,false] (by kernel_rfl) (v:=.pointer (some ⟨b1,12,none⟩)) rfl rfl (by kernel_rfl) (by kernel_rfl) (by kernel_rfl) rfl (fun W _=>Ar rfl rfl rfl (iX b1 W)) hS ?_
 simp only[nmA]
 refine Lj 11 21 #[true,true,true,true,true,true,true,true,true,true,true,true,false,false,false,false] (by kernel_rfl) (v:=Aa T) (cs:=((ptL X Y Z T).toArray)) (sub:=elR T) (b:=b1) rfl rfl rfl rfl (fun W hW=>hW) rfl rfl Aw (by kernel_rfl) (by kernel_rfl) (by kernel_rfl) rfl hS ?_
 simp only[nmA]
 refine GL (n:=12) #[true,true,true,true,true,true,true,true,true,true,true,true,true,false,false,false] (by kernel_rfl) (by kernel_rfl) rfl hM6 3 (cs:=(elR X)) rfl rfl rfl rfl Aw rfl (Ay X) rfl rfl (fun W hW=>hW.get 4 rfl) fun W7 hM7=>?_
 simp only[nm2,nm3] at hM7
 refine GL (n:=13) #[true,true,true,true,true,true,true,true,true,true,true,true,true,true,false,false] (by kernel_rfl) (by kernel_rfl) rfl hM7 2 (cs:=(elR Y)) rfl rfl rfl rfl Aw rfl (Ay Y) rfl rfl (fun W hW=>hW.get 4 rfl) fun W8 hM8=>?_
 simp only[nm2,nm3] at hM8
 refine GL (n:=14) #[true,true,true,true,true,true,true,true,true,true,true,true,true,true,true,false] (by kernel_rfl) (by kernel_rfl) rfl hM8 1 (cs:=(elR Z)) rfl rfl rfl rfl Aw rfl (Ay Z) rfl rfl (fun W hW=>hW.get 4 rfl) fun W9 hM9=>?_
 simp only[nm2,nm3] at hM9
 refine GL (n:=15) #[true,true,true,true,true,true,true,true,true,true,true,true,true,true,true,true] (by kernel_rfl) (by kernel_rfl) rfl hM9 0 (cs:=(elR T)) rfl rfl rfl rfl Aw rfl (Ay T) rfl rfl (fun W hW=>hW.get 4 rfl) fun W10 hM10=>?_
 simp only[nm2,nm3] at hM10
 refine wpAnyH_done (by kernel_rfl) ?_ _
 refine NoPanic.normal ?_
 ((iterate 3 go_step);refine bodyPost_ret (v:=.tuple #[Aa X,Aa Y,Aa Z,Aa T]) (Pf Tryz.results82 rfl rfl rfl rfl (hM10.load 3 rfl Aw) (hM10.load 2 rfl Aw) (hM10.load 1 rfl Aw) (hM10.load 0 rfl Aw)) rfl ⟨?_,hM10.below⟩)
 exact rfl
theorem aM (X Y Z T:Nat) (hX:X<PN) (hY:Y<PN) (hZ:Z<PN) (hT:T<PN) (hzZ:0<Z) (w:World):Calls Tryz.prog 35 #[ptV X Y Z T] w fun E w'=>E=.returned (ptV ((0+PN-X)%PN) Y Z ((0+PN-T)%PN))∧Below w.heap.size w w':=by
 have HMIX:=Lh (show Tryz.prog.follows .mixedOrders=true by kernel_rfl)
 go_enter Tryz.func35,Tryz.ntmps35
 have hM0:=Mem.start w
 (go_step;go_step;refine wp_region_lit ?_)
 refine At hM0 (ob:=.cells ((ptL X Y Z T).toArray) 39 (0,0)) (fun W=>AK rfl rfl (L8 X Y Z T W)) rfl fun b1 W1 hM1=>?_
 simp only[nmA]
 refine At hM1 (ob:=.cells z16 39 (0,0)) (fun W=>Ab rfl (Ew W)) rfl fun b2 W2 hM2=>?_
 simp only[nmA]
 refine wpList_nil ?_
 ((iterate 3 go_step);refine wp_region_lit ?_)
 refine AD hM2 1 (v:=ptV X Y Z T) rfl rfl rfl rfl AS rfl ?_
 simp only[nmA]
 refine Ah hM2 (args:=#[ptV X Y Z T]) (v:=.tuple #[Aa X,Aa Y,Aa Z,Aa T]) (rcf (enters_of Tryz.func82 rfl rfl)) (Fr X Y Z T hX hY hZ hT hzZ W2) rfl fun W3 hM3=>?_
 simp only[nmA]
 refine Ad (.tuple #[Aa X,Aa Y,Aa Z,Aa T]) ?_
 simp only[nmA]
 refine Ad (Aa X) ?_
 simp only[nmA]
 refine Ad (Aa Y) ?_
 simp only[nmA]
 refine Ad (Aa Z) ?_
 simp only[nmA]
 refine Ad (Aa T) ?_
 simp only[nmA]
 refine At hM3 (ob:=.cells z4 36 (0,0)) (fun W=>Ab rfl (Bk W)) rfl fun b3 W4 hM4=>?_
 simp only[nmA]
 refine At hM4 (ob:=.cells z4 36 (0,0)) (fun W=>Ab rfl (Bk W)) rfl fun b4 W5 hM5=>?_
 simp only[nmA]
 refine At hM5 (ob:=.cells z4 36 (0,0)) (fun W=>Ab rfl (Bk W)) rfl fun b5 W6 hM6=>?_
 simp only[nmA]
 refine At hM6 (ob:=.cells z4 36 (0,0)) (fun W=>Ab rfl (Bk W)) rfl fun b6 W7 hM7=>?_
 simp only[nmA]
 refine Av hM7 3 (cs:=(elR X)) rfl rfl rfl rfl Aw rfl (Ay X) rfl rfl fun W8 hM8=>?_
 simp only[nm2,nm3] at hM8
 refine Av hM8 2 (cs:=(elR Y)) rfl rfl rfl rfl Aw rfl (Ay Y) rfl rfl fun W9 hM9=>?_
 simp only[nm2,nm3] at hM9
 refine Av hM9 1 (cs:=(elR Z)) rfl rfl rfl rfl Aw rfl (Ay Z) rfl rfl fun W10 hM10=>?_
 simp only[nm2,nm3] at hM10
 refine Av hM10 0 (cs:=(elR T)) rfl rfl rfl rfl Aw rfl (Ay T) rfl rfl fun W11 hM11=>?_
 simp only[nm2,nm3] at hM11
 refine wpList_nil ?_
 ((iterate 3 go_step);refine Ak 8 HMIX.out (by decide) (by kernel_rfl) (by kernel_rfl) ?_)
 refine Ao hM11 3 (v:=Aa X) rfl rfl rfl rfl Aw rfl rfl ?_;simp only[nmA]
 obtain⟨v1,ev1⟩:=exza ((0+PN-X)%PN)
 have pv1:v1<PN:=by rw[ev1];exact Nat.mod_lt _ Au
 have Kv1:=fun W=>Ho X W hX
 simp only[← ev1] at Kv1
 refine Am (args:=#[Aa X]) (v:=Aa v1) (rcf (enters_of Tryz.func83 rfl rfl)) (fun W _=>Kv1 W) rfl rfl ?_;simp only[nmA]
 refine Ao hM11 2 (v:=Aa Y) rfl rfl rfl rfl Aw rfl rfl ?_;simp only[nmA]
 refine Ao hM11 1 (v:=Aa Z) rfl rfl rfl rfl Aw rfl rfl ?_;simp only[nmA]
 refine Ao hM11 0 (v:=Aa T) rfl rfl rfl rfl Aw rfl rfl ?_;simp only[nmA]
 obtain⟨v2,ev2⟩:=exza ((0+PN-T)%PN)
 have pv2:v2<PN:=by rw[ev2];exact Nat.mod_lt _ Au
 have Kv2:=fun W=>Ho T W hT
 simp only[← ev2] at Kv2
 refine Am (args:=#[Aa T]) (v:=Aa v2) (rcf (enters_of Tryz.func83 rfl rfl)) (fun W _=>Kv2 W) rfl rfl ?_;simp only[nmA]
 refine As (v:=ptV v1 Y Z v2) (fun W=>Bq rfl (by simp[Act.eval]) (bd4 v1 Y Z v2 W)) rfl rfl ?_;simp only[nmA]
 refine As (v:=ptV v1 Y Z v2) (fun W=>Bq rfl (by simp[Act.eval]) (bdP v1 Y Z v2 W)) rfl rfl ?_;simp only[nmA]
 refine AO fun d os=>?_
 refine Az fun hap=>?_
 have hM12:=hM11.calls (below_regrown W11 d os)
 clear hap 
 generalize grow (redrawn W11 d) os=W12 at hM12 ⊢
 change wpAny _ _ _ _ 1 _ _ _
 refine A7 (n:=8) (by kernel_rfl) rfl hM12 4 (cs:=((ptL v1 Y Z v2).toArray)) rfl rfl rfl rfl AS rfl (G6 v1 Y Z v2) rfl rfl fun W13 hM13=>?_
 simp only[nm2,nm3] at hM13
 refine wpAny_done (by kernel_rfl) ?_ _
 ((iterate 3 go_step);refine bodyPost_ret (v:=ptV v1 Y Z v2) (Ap Tryz.results35 rfl (hM13.load 4 rfl AS)) rfl ⟨?_,hM13.below⟩)
 exact by rw[ev2,ev1]
theorem fJ (X Y Z T:Nat) (hX:X<PN) (hY:Y<PN) (hZ:Z<PN) (hT:T<PN) (hzZ:0<Z) (w:World):Calls Tryz.prog 92 #[ptV X Y Z T] w fun E w'=>E=.returned (.tuple #[Aa (X*IV Z%PN),Aa (Y*IV Z%PN)])∧Below w.heap.size w w':=by
 have HMIX:=Lh (show Tryz.prog.follows .mixedOrders=true by kernel_rfl)
 go_enter Tryz.func92,Tryz.ntmps92
 have hM0:=Mem.start w
 (go_step;go_step;refine wp_region_lit ?_)
 refine At hM0 (ob:=.cells ((ptL X Y Z T).toArray) 39 (0,0)) (fun W=>AK rfl rfl (L8 X Y Z T W)) rfl fun b1 W1 hM1=>?_
 simp only[nmA]
 refine At hM1 (ob:=.cells z4 36 (0,0)) (fun W=>Ab rfl (Bk W)) rfl fun b2 W2 hM2=>?_
 simp only[nmA]
 refine At hM2 (ob:=.cells z4 36 (0,0)) (fun W=>Ab rfl (Bk W)) rfl fun b3 W3 hM3=>?_
 simp only[nmA]
 refine wpList_nil ?_
 ((iterate 3 go_step);refine wp_region_lit ?_)
 refine AD hM3 2 (v:=ptV X Y Z T) rfl rfl rfl rfl AS rfl ?_
 simp only[nmA]
 refine Ah hM3 (args:=#[ptV X Y Z T]) (v:=.tuple #[Aa X,Aa Y,Aa Z,Aa T]) (rcf (enters_of Tryz.func82 rfl rfl)) (Fr X Y Z T hX hY hZ hT hzZ W3) rfl fun W4 hM4=>?_
 simp only[nmA]
 refine Ad (.tuple #[Aa X,Aa Y,Aa Z,Aa T]) ?_
 simp only[nmA]
 refine Ad (Aa X) ?_
 simp only[nmA]
 refine Ad (Aa Y) ?_
 simp only[nmA]
 refine Ad (Aa Z) ?_
 simp only[nmA]
 refine Ad (Aa T) ?_
 simp only[nmA]
 refine At hM4 (ob:=.cells z4 36 (0,0)) (fun W=>Ab rfl (Bk W)) rfl fun b4 W5 hM5=>?_
 simp only[nmA]
 refine At hM5 (ob:=.cells z4 36 (0,0)) (fun W=>Ab rfl (Bk W)) rfl fun b5 W6 hM6=>?_
 simp only[nmA]
 refine Av hM6 3 (cs:=(elR X)) rfl rfl rfl rfl Aw rfl (Ay X) rfl rfl fun W7 hM7=>?_
 simp only[nm2,nm3] at hM7
 refine Av hM7 2 (cs:=(elR Y)) rfl rfl rfl rfl Aw rfl (Ay Y) rfl rfl fun W8 hM8=>?_
 simp only[nm2,nm3] at hM8
 refine Av hM8 1 (cs:=(elR Z)) rfl rfl rfl rfl Aw rfl (Ay Z) rfl rfl fun W9 hM9=>?_
 simp only[nm2,nm3] at hM9
 refine Av hM9 0 (cs:=(elR T)) rfl rfl rfl rfl Aw rfl (Ay T) rfl rfl fun W10 hM10=>?_
 simp only[nm2,nm3] at hM10
 refine wpList_nil ?_
 ((iterate 3 go_step);refine wp_region_lit ?_)
 refine AD hM10 1 (v:=Aa Z) rfl rfl rfl rfl Aw rfl ?_
 simp only[nmA]
 obtain⟨v1,ev1⟩:=exza (IV Z)
 have pv1:v1<PN:=by rw[ev1];exact Mv _
 have Kv1:=fun W=>Nf Z W hZ
 simp only[← ev1] at Kv1
 refine Ah hM10 (args:=#[Aa Z]) (v:=Aa v1) (rcf (enters_of Tryz.func81 rfl rfl)) (Kv1 W10) rfl fun W11 hM11=>?_
 simp only[nmA]
 refine At hM11 (ob:=.cells z4 36 (0,0)) (fun W=>Ab rfl (Bk W)) rfl fun b6 W12 hM12=>?_
 simp only[nmA]
 refine Av hM12 0 (cs:=(elR v1)) rfl rfl rfl rfl Aw rfl (Ay v1) rfl rfl fun W13 hM13=>?_
 simp only[nm2,nm3] at hM13
 refine wpList_nil ?_
 ((iterate 3 go_step);refine Ak 8 HMIX.out (by decide) (by kernel_rfl) (by kernel_rfl) ?_)
 refine Ao hM13 4 (v:=Aa X) rfl rfl rfl rfl Aw rfl rfl ?_;simp only[nmA]
 refine Ao hM13 0 (v:=Aa v1) rfl rfl rfl rfl Aw rfl rfl ?_;simp only[nmA]
 refine AX (n:=2) (L:=elR X++elR v1) (T:=36) (fun W=>Ax rfl (by simp[Act.eval]) (bs2 X v1 W)) rfl rfl ?_;simp only[List.nil_append,List.cons_append]
 obtain⟨v2,ev2⟩:=exza (X*v1%PN)
 have pv2:v2<PN:=by rw[ev2];exact Nat.mod_lt _ Au
 have Kv2:=Ck X v1 hX pv1
 rw[← ev2] at Kv2
 refine A9 2 18 (v:=Aa v2) rfl rfl (fun _=>rfl) (fun b W=>AR W (enters_of Tryz.func76 rfl rfl) rfl (by simp[Act.eval,Act.put])) (fun b W h=>Kv2 b W h) ?_;simp only[nmA]
 refine Ao hM13 3 (v:=Aa Y) rfl rfl rfl rfl Aw rfl rfl ?_;simp only[nmA]
 refine Ao hM13 0 (v:=Aa v1) rfl rfl rfl rfl Aw rfl rfl ?_;simp only[nmA]
 refine AX (n:=2) (L:=elR Y++elR v1) (T:=36) (fun W=>Ax rfl (by simp[Act.eval]) (bs2 Y v1 W)) rfl rfl ?_;simp only[List.nil_append,List.cons_append]
 obtain⟨v3,ev3⟩:=exza (Y*v1%PN)
 have pv3:v3<PN:=by rw[ev3];exact Nat.mod_lt _ Au
 have Kv3:=Ck Y v1 hY pv1
 rw[← ev3] at Kv3
 refine A9 6 22 (v:=Aa v3) rfl rfl (fun _=>rfl) (fun b W=>AR W (enters_of Tryz.func76 rfl rfl) rfl (by simp[Act.eval,Act.put])) (fun b W h=>Kv3 b W h) ?_;simp only[nmA]
 refine AO fun d os=>?_
 refine Bb (t:=18) rfl fun s2=>?_
 refine Bb (t:=22) rfl fun s6=>?_
 refine Az fun hap=>?_
 simp only[nmA] at hap ⊢
 have hM14:=hM13.calls (below_regrown W13 d os)
 clear hap 
 generalize grow (redrawn W13 d) os=W14 at hM14 ⊢
 change wpAny _ _ _ _ 2 _ _ _
 refine A7 (n:=8) (by kernel_rfl) rfl hM14 4 (cs:=(elR v2)) rfl rfl rfl rfl Aw rfl (Ay v2) rfl rfl fun W15 hM15=>?_
 simp only[nm2,nm3] at hM15
 refine A7 (n:=9) (by kernel_rfl) rfl hM15 3 (cs:=(elR v3)) rfl rfl rfl rfl Aw rfl (Ay v3) rfl rfl fun W16 hM16=>?_
 simp only[nm2,nm3] at hM16
 refine wpAny_done (by kernel_rfl) ?_ _
 ((iterate 3 go_step);refine bodyPost_ret (v:=.tuple #[Aa v2,Aa v3]) (CI Tryz.results92 rfl rfl (hM16.load 4 rfl Aw) (hM16.load 3 rfl Aw)) rfl ⟨?_,hM16.below⟩)
 exact by rw[ev3,ev2,ev1]
end Go.Proofs.YtnaldciakclccaaGreat
