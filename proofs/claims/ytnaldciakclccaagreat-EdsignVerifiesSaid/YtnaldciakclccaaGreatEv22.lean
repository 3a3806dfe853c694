/- Lemmas of this proof. -/
import Derived.Lib.BufferWrite
import Derived.Laws.CopyOwn
import Derived.Test.YtnaldciakclccaaGreatEv21
namespace Go.Proofs.YtnaldciakclccaaGreat
set_option maxRecDepth 20000
set_option maxHeartbeats 8000000
set_option linter.unusedSimpArgs false
set_option linter.unusedVariables false
open Go.RowKit
def Fc (k:Nat):ByteArray:=⟨(List.replicate k (0:UInt8)).toArray⟩
theorem QA (k:Nat):Fc k++⟨#[0]⟩=Fc (k+1):=by
 unfold Fc
 rw[List.replicate_succ']
 rfl
theorem JM (c:Nat) (hc:c<256) (w:World):(convert 90 9 (.slice (some ⟨w.heap.size,0,none⟩) 1 1)).run Tryz.prog (w.alloc (.cells #[.int .u8 (c:Int)] 5))=.ok (.string ⟨#[UInt8.ofNat c]⟩) (w.alloc (.cells #[.int .u8 (c:Int)] 5)):=by
 have h:=run_convert_bytes_back (P:=Tryz.prog) (w.alloc (.cells #[.int .u8 (c:Int)] 5)) 90 9 5 ⟨w.heap.size,0,none⟩ 1 [UInt8.ofNat c] Tryz.underlying90 Tryz.underlying5 Tryz.underlying9 (fun j hj=>by
  have j0:j=0:=by simpa using hj
  subst j0
  have hadd:(⟨w.heap.size,0,none⟩:Addr).add 0=⟨w.heap.size,0,none⟩:=by unfold Addr.add;split <;> simp_all
  rw[hadd]
  have h2:(w.alloc (.cells #[.int .u8 (c:Int)] 5)).heap[w.heap.size]?=some (.cells [Value.int .u8 (c:Int)].toArray 5 (0,0)):=Aj w _
  rw[(Af (i:=0) (v:=.int .u8 (c:Int)) h2 rfl).1]
  show _=some (Value.int .u8 ((UInt8.ofNat c).toNat:Int))
  rw[UInt8.toNat_ofNat_of_lt' hc])
 exact h
def Pv (k:Nat):ByteArray:=⟨(128::List.replicate k (0:UInt8)).toArray⟩
theorem XQ (k:Nat):Pv k++⟨#[0]⟩=Pv (k+1):=by
 unfold Pv
 rw[List.replicate_succ']
 rfl
theorem NQ (k:Nat):(Pv k).size=k+1:=by
 show (128::List.replicate k (0:UInt8)).toArray.size=k+1
 simp
theorem Yk (A size j q z:Nat) (h0:0<size) (hA:A%size=q) (hz:(size-q)%size=z) (hj:j≤z):(A+j)%size=0↔j=z:=by
 have hq:q<size:=by rw[← hA];exact Nat.mod_lt A h0
 have e:(A+j)%size=(q+j)%size:=by
  conv=>lhs;rw[← Nat.div_add_mod A size,hA,Nat.add_assoc,Nat.mul_add_mod]
 rw[e]
 rcases Nat.eq_zero_or_pos q with h | h
 ·subst h
  rw[Nat.sub_zero,Nat.mod_self] at hz
  obtain rfl:j=0:=by omega
  simp[← hz]
 ·rw[Nat.mod_eq_of_lt (by omega)] at hz
  constructor
  ·intro h2
   apply Nat.le_antisymm hj
   apply Nat.le_of_not_lt
   intro h3
   rw[Nat.mod_eq_of_lt (by omega)] at h2
   omega
  ·rintro rfl
   rw[show q+j=size by omega,Nat.mod_self]
theorem PZ (x:Int):∀ k,Do x k=(List.range k).map fun i=>ofI (dk x (k-1-i)%256)
 | 0=>rfl
 | k+1=>by
   rw[Do,PZ x k,List.range_succ_eq_map]
   simp only[List.map_cons,List.map_map]
   congr 1
   refine List.map_congr_left fun i _=>?_
   simp only[Function.comp]
   congr 3
   omega
def DY (size:Nat) (L:List UInt8) (bl:List (List UInt8)) (q:List UInt8):Prop:=L=bl.flatten++q∧(∀ b ∈ bl,b.length=size)∧q.length<size
theorem DY.one {size:Nat}:∀ {bl bl':List (List UInt8)} {L q q':List UInt8},DY size L bl q→DY size L bl' q'→bl=bl'∧q=q'
 | [],[],L,q,q',h,h'=>⟨rfl,by have e:=h.1.symm.trans h'.1;simpa using e⟩
 | [],b::r,L,q,q',h,h'=>by
   exfalso
   have e:=congrArg List.length (h.1.symm.trans h'.1)
   have hb:=h'.2.1 b (by simp)
   have hq:=h.2.2
   simp at e
   omega
 | b::r,[],L,q,q',h,h'=>by
   exfalso
   have e:=congrArg List.length (h.1.symm.trans h'.1)
   have hb:=h.2.1 b (by simp)
   have hq:=h'.2.2
   simp at e
   omega
 | b::r,b'::r',L,q,q',h,h'=>by
   have e:=h.1.symm.trans h'.1
   have hb:=h.2.1 b (by simp)
   have hb':=h'.2.1 b' (by simp)
   simp only[List.flatten_cons,List.append_assoc] at e
   obtain⟨e1,e2⟩:=List.append_inj e (by omega)
   obtain⟨i1,i2⟩:=DY.one (bl:=r) (bl':=r') (L:=r.flatten++q) (q:=q) (q':=q') ⟨rfl,fun x hx=>h.2.1 x (by simp[hx]),h.2.2⟩ ⟨e2,fun x hx=>h'.2.1 x (by simp[hx]),h'.2.2⟩
   exact⟨by rw[e1,i1],i2⟩
theorem DY.nil {size:Nat} {q:List UInt8} (h:q.length<size):DY size q [] q:=⟨by simp,by simp,h⟩
theorem DY.next {size:Nat} {L L' q q':List UInt8} {bl bl':List (List UInt8)} (h:DY size L bl q) (h':DY size (q++L') bl' q'):DY size (L++L') (bl++bl') q' :=
 ⟨by rw[h.1,List.append_assoc,h'.1,List.flatten_append,List.append_assoc],fun b hb=>by rcases List.mem_append.1 hb with hb | hb;exact h.2.1 b hb;exact h'.2.1 b hb,h'.2.2⟩
theorem DY.full {size:Nat} {L q:List UInt8} {bl:List (List UInt8)} (b:List UInt8) (hb:b.length=size) (h0:0<size) (h:L=bl.flatten++b) (hbl:∀ b ∈ bl,b.length=size):DY size L (bl++[b]) [] :=
 ⟨by rw[h];simp,fun x hx=>by rcases List.mem_append.1 hx with hx | hx;exact hbl x hx;have e:x=b:=by simpa using hx
                             rw[e];exact hb,h0⟩
def D4 (size fill wr:Nat) (P:List UInt8):List Value:=[.int .i64 (size:Int),.int .i64 (fill:Int),.int .i64 (wr:Int)]++P.map bc
def Cx (w:World) (g size:Nat) (q:List UInt8) (wr:Nat):Prop:=∃ P:List UInt8,P.length=256∧P.take q.length=q∧w.heap[g]?=some (.cells (D4 size q.length wr P).toArray 203 (0,0))
theorem Cx.of_block {w w':World} {g size wr:Nat} {q:List UInt8} (h:Cx w g size q wr) (e:w'.heap[g]?=w.heap[g]?):Cx w' g size q wr:=by
 obtain⟨P,h1,h2,h3⟩:=h
 exact⟨P,h1,h2,e.trans h3⟩
theorem Cx.lt {w:World} {g size wr:Nat} {q:List UInt8} (h:Cx w g size q wr):g<w.heap.size:=by
 obtain⟨P,h1,h2,h3⟩:=h
 apply Nat.lt_of_not_le
 intro hle
 rw[Array.getElem?_eq_none hle] at h3
 simp at h3
def Cd (L:List UInt8):Value:=.string ⟨L.toArray⟩
theorem Ed {size fill wr:Nat} {P:List UInt8}:(D4 size fill wr P)[0]?=some (.int .i64 (size:Int))∧(D4 size fill wr P)[1]?=some (.int .i64 (fill:Int))∧(D4 size fill wr P)[2]?=some (.int .i64 (wr:Int)):=⟨rfl,rfl,rfl⟩
theorem IM {size fill wr:Nat} {P:List UInt8} (n:Nat):(D4 size fill wr P).set 1 (.int .i64 (n:Int))=D4 size n wr P:=rfl
theorem PI {size fill wr:Nat} {P:List UInt8} (n:Nat):(D4 size fill wr P).set 2 (.int .i64 (n:Int))=D4 size fill n P:=rfl
theorem WG {size fill wr:Nat} {P:List UInt8} {k:Nat} (h:k<P.length):(D4 size fill wr P)[3+k]?=some (bc P[k]):=by
 unfold D4
 rw[List.getElem?_append_right (by simp),show 3+k-[Value.int .i64 (size:Int),.int .i64 (fill:Int),.int .i64 (wr:Int)].length=k by simp,List.getElem?_map,List.getElem?_eq_getElem h]
 rfl
theorem ZF (g size wr:Nat) (q:List UInt8) (w:World) (h:Cx w g size q wr):Calls Tryz.prog 190 #[.pointer (some ⟨g,0,none⟩)] w fun e w'=>e=.returned (.int .i64 (wr:Int))∧w=w':=by
 obtain⟨P,h1,h2,h3⟩:=h
 obtain⟨c2,f2⟩:=Af h3 Ed.2.2
 clear h3
 go_enter Tryz.func190,Tryz.ntmps190
 go_wp2_with fail
 go_ret
 exact⟨rfl,rfl⟩
theorem aI (g size wr:Nat) (q:List UInt8) (w:World) (h:Cx w g size q wr) (hq:q.length≤256):Calls Tryz.prog 178 #[.pointer (some ⟨g,0,none⟩)] w fun e w'=>e=.returned (.slice (some ⟨g,3,none⟩) q.length q.length)∧w.drew=w':=by
 obtain⟨P,h1,h2,h3⟩:=h
 obtain⟨c1,f1⟩:=Af h3 Ed.2.1
 clear h3 f1
 generalize q.length=n at *
 have i1:(0:Int)≤(n:Int):=by omega
 have i2:(n:Int)≤256:=by omega
 go_enter Tryz.func178,Tryz.ntmps178
 go_wp2_with fail
 go_region
 all_goals
  go_wp2_with fail
  go_ret
  exact⟨rfl,rfl⟩
theorem Xh {w:World} {g size wr:Nat} {q:List UInt8} (h:Cx w g size q wr) (hq:q.length≤256):(convert 90 9 (.slice (some ⟨g,3,none⟩) q.length q.length)).run Tryz.prog w=.ok (Cd q) w:=by
 obtain⟨P,h1,h2,h3⟩:=h
 refine run_convert_bytes_back (P:=Tryz.prog) w 90 9 5 ⟨g,3,none⟩ q.length q Tryz.underlying90 Tryz.underlying5 Tryz.underlying9 fun k hk=>?_
 have hadd:(⟨g,3,none⟩:Addr).add k=⟨g,3+k,none⟩:=by unfold Addr.add;split <;> simp_all
 have hk2:k<P.length:=by omega
 rw[hadd,(Af h3 (WG hk2)).1]
 have e:P[k]=q[k]:=by
  have h4:(P.take q.length)[k]?=q[k]?:=by rw[h2]
  rw[List.getElem?_take,if_pos hk,List.getElem?_eq_getElem hk2,List.getElem?_eq_getElem hk] at h4
  simpa using h4
 rw[e]
 rfl
theorem LV {size fill wr:Nat} {P:List UInt8} (h:P.length=256):(D4 size fill wr P).length=259:=by
 unfold D4
 rw[List.length_append,List.length_map,h]
 rfl
theorem XF {size fill wr:Nat} {P:List UInt8}:∀ v ∈ D4 size fill wr P,v.oneCell'=true:=by
 intro v hv
 unfold D4 at hv
 rcases List.mem_append.1 hv with h | h
 ·simp at h
  rcases h with rfl | rfl | rfl <;> rfl
 ·obtain⟨b,_,rfl⟩:=List.mem_map.1 h
  rfl
def I2 (n:Nat):List UInt8:=List.replicate n 0
theorem LK (n:Nat):(I2 n).length=n:=List.length_replicate
def Kz:Array Value:=(D4 0 0 0 (I2 256)).toArray
theorem Nh:Kz.size=259:=by unfold Kz;rw[List.size_toArray,LV (LK 256)]
theorem PL (w:World):(zeroValue 203).run Tryz.prog w=.ok (.agg Kz) w:=by
 have h:(Tryz.prog.info? 203).bind (·.zero)=some (.agg Kz):=by
  kernel_rfl
 unfold zeroValue typeInfo
 cases hq:Tryz.prog.info? 203 with
 | none=>rw[hq] at h;cases h
 | some i =>
   rw[hq] at h
   have h':i.zero=some (.agg Kz):=h
   simp[hq,h']
theorem aG (g size wr:Nat) (q:List UInt8) (w:World) (h:Cx w g size q wr):Calls Tryz.prog 139 #[.pointer (some ⟨g,0,none⟩)] w fun e w'=>e=.returned (.pointer (some ⟨w.heap.size,0,none⟩))∧Cx w' w.heap.size size q wr∧Below w.heap.size w w':=by
 obtain⟨P,h1,h2,h3⟩:=h
 have kz:=PL
 have hlen:=LV (size:=size) (fill:=q.length) (wr:=wr) h1
 have hz:(w.alloc (.cells Kz 203)).heap[w.heap.size]?=some (.cells Kz 203 (0,0)):=Aj w _
 have ks:=run_storeCells_from (P:=Tryz.prog) w.heap.size 203 (D4 size q.length wr P) 0 _ _ hz (by rw[hlen,Nh]) XF
 have hz2:=setRow_heap _ w.heap.size _ (D4 size q.length wr P).toArray _ _ hz
 have hb:Below w.heap.size w ((w.alloc (.cells Kz 203)).setRow w.heap.size (D4 size q.length wr P).toArray):=below_setRow ((Below.refl _ _).alloc (Nat.le_refl _) _) (Nat.le_refl _) _
 have HB:=Lh (show Cx _ w.heap.size size q wr from ⟨P,h1,h2,hz2⟩)
 have HE:=Lh hb
 rw[List.take_zero,List.nil_append] at ks
 have kl:=run_loadVar_row (P:=Tryz.prog) w g 203 203 (D4 size q.length wr P).toArray (0,0) _ h3 Tryz.underlying203 rfl (by rw[List.size_toArray,hlen];kernel_rfl)
 have ka:(Instr.loadAt 203 (.pointer (some ⟨g,0,none⟩))).run Tryz.prog w=.ok (.agg (D4 size q.length wr P).toArray) w:=by
  simp only[Instr.loadAt,Instr.sureAddr,Sem.run_bind,Sem.run_pure,Result.andThen_ok,kl]
 have hsz:(Tryz.prog.info? 203).map (·.size)=some (D4 size q.length wr P).length:=by rw[hlen];kernel_rfl
 clear hz hz2 hb kl ka
 generalize D4 size q.length wr P=L at *
 generalize Kz=Z at *
 go_enter Tryz.func139,Tryz.ntmps139
 clear h1 h2
 have HS:=Lh hsz
 clear hsz
 iterate 34 go_step
 refine wp_load_row 203 (.tmp 7) rfl g (by simp[Act.eval]) 203 L.toArray (0,0) _ h3 Tryz.underlying203 rfl (by rw[List.size_toArray];exact HS.out) ?_
 go_wp2_with fail
 go_ret
 exact⟨rfl,HB.out,HE.out⟩
theorem fc (size:Nat) (w:World) (h1:1≤size) (h2:size≤256):Calls Tryz.prog 135 #[.int .i64 (size:Int)] w fun e w'=>e=.returned (.pointer (some ⟨w.heap.size,0,none⟩))∧Cx w' w.heap.size size [] 0∧Below w.heap.size w w':=by
 have kz:=PL
 have hs:=Nh
 have hset:Kz.setIfInBounds 0 (.int .i64 (size:Int))=(D4 size 0 0 (I2 256)).toArray:=by
  unfold Kz
  rw[List.setIfInBounds_toArray]
  rfl
 have i1:¬ (size:Int)<1:=by omega
 have i2:¬ (256:Int)<(size:Int):=by omega
 have HB:=Lh (show Cx (w.alloc (.cells (D4 size 0 0 (I2 256)).toArray 203)) w.heap.size size [] 0 from ⟨I2 256,LK 256,rfl,Aj w _⟩)
 have HE:=Lh ((Below.refl w.heap.size w).alloc (Nat.le_refl _) (.cells (D4 size 0 0 (I2 256)).toArray 203))
 generalize (D4 size 0 0 (I2 256)).toArray=L at *
 generalize Kz=Z at *
 have hne:(Z=#[])=False:=by
  apply eq_false
  rintro rfl
  simp at hs
 go_enter Tryz.func135,Tryz.ntmps135
 go_wp2_with fail
 go_ret
 exact⟨rfl,HB.out,HE.out⟩
theorem CU (w:World) (b i:Nat) (v:Value):w.grownBy (w.setCell ⟨b,i,none⟩ v) (some b) :=
 ⟨rfl,rfl,rfl,by simp[World.setCell],fun k _ hk=>Below.heap_setCell _ _ _ _ (fun e=>hk (by simp[e]))⟩
theorem GZ (w:World) (b:Nat) (cs:Array Value):w.grownBy (w.setRow b cs) (some b) :=
 ⟨rfl,rfl,rfl,by simp[World.setRow],fun k _ hk=>setRow_other w b k cs (fun e=>hk (by simp[e]))⟩
theorem IW (w:World) (o:Option Nat):w.grownBy w o:=⟨rfl,rfl,rfl,Nat.le_refl _,fun _ _ _=>rfl⟩
theorem OX (L:List UInt8):(⟨L.toArray⟩:ByteArray).size=L.length:=rfl
theorem JY {ss:List (List UInt8)} {j:Nat} (h:j<ss.length):(ss.take (j+1)).flatten=(ss.take j).flatten++ss[j]:=by
 rw[List.take_add_one,List.getElem?_eq_getElem h,List.flatten_append]
 simp
theorem UR (ss:List (List UInt8)) (j:Nat):(ss.take j).flatten.length≤ss.flatten.length:=by
 conv=>rhs;rw[← List.take_append_drop j ss,List.flatten_append,List.length_append]
 omega
theorem Cx.written {W:World} {g size wr:Nat} {q:List UInt8} (h:Cx W g size q wr) (n:Nat):Cx (W.setCell ⟨g,2,none⟩ (.int .i64 (n:Int))) g size q n:=by
 obtain⟨P,h1,h2,h3⟩:=h
 exact⟨P,h1,h2,by have h:=AF (i:=2) h3 (.int .i64 (n:Int));rwa [PI] at h⟩
theorem Ga {w W':World} {base g n:Nat} {e:TypeId} {v:Value} {xs:List Value} (h:w.ownsRow base e 1 v n xs) (hg:w.grownBy W' (some g)) (hlt:g<base):W'.ownsRow base e 1 v n xs :=
 h.kept hg (.inr fun e1=>by have:=(h.lt g e1).1;omega)
open Go.Lib in
theorem OC {P:Program} (w:World) (dT sT ty elem:TypeId) (g o dLen dCap n:Nat) (s:ByteArray) (cur:Array Value) (t:TypeId)
    (hu:P.underlying dT=some (.slice elem)) (hs:(P.info? elem).map (·.size)=some 1) (hg:w.heap[g]?=some (.cells cur t (0,0))) (hn:Nat.min s.size dLen=n) (hfit:o+n≤cur.size) :
    (Builtin.copy_ #[dT,sT] ty #[.slice (some ⟨g,o,none⟩) dLen dCap,.string s]).run P w =
     .ok (goInt n) (w.setRow g (cur.toList.take o++byteCells (s.data.toList.take n)++cur.toList.drop (o+n)).toArray):=by
 have hle:n≤s.size:=by rw[← hn];exact Nat.min_le_left _ _
 have hlen:(byteCells (s.data.toList.take n)).length=n:=by rw[byteCells_length,List.length_take,← size_eq];omega
 have hst:=run_storeCells_at P g o t (byteCells (s.data.toList.take n)) 0 cur w hg (by rw[hlen];simpa using hfit) (byteCells_one _)
 have htk:List.take n (List.map (fun b:UInt8=>Value.int IntKind.u8 (b.toNat:Int)) s.data.toList)=byteCells (s.data.toList.take n):=by
  rw[← List.map_take]
  rfl
 rw[hlen] at hst
 simp only[Nat.add_zero] at hst
 cases hq:P.info? elem with
 | none=>simp[hq] at hs
 | some i =>
   simp[Builtin.copy_,run_underlying hu,Builtin.lenOf,Builtin.firstCells,sizeOf,typeInfo,hq,hn]
   rw[htk,hst]
   simp[Result.andThen]
def IP (P r:List UInt8) (f n:Nat):List UInt8:=P.take f++r.take n++P.drop (f+n)
theorem VF {P r:List UInt8} {f n:Nat} (hP:P.length=256) (h:f+n≤256) (hr:n≤r.length):(IP P r f n).length=256:=by
 unfold IP
 rw[List.length_append,List.length_append,List.length_take,List.length_take,List.length_drop]
 omega
theorem Sx {P r:List UInt8} {f n:Nat} (hP:P.length=256) (h:f+n≤256) (hr:n≤r.length):(IP P r f n).take (f+n)=P.take f++r.take n:=by
 unfold IP
 have e:(P.take f++r.take n).length=f+n:=by rw[List.length_append,List.length_take,List.length_take];omega
 conv=>lhs;rw[← e]
 exact List.take_left' rfl
theorem UZ {w:World} {g size f cw n:Nat} {P r:List UInt8} (h3:w.heap[g]?=some (.cells (D4 size f cw P).toArray 203 (0,0))) (hP:P.length=256) (hf:f≤256) (hsz:size≤256) (hn:Nat.min r.length (size-f)=n) :
    (Builtin.copy_ #[90,9] 3 #[.slice (some ⟨g,3+f,none⟩) (size-f) (256-f),.string ⟨r.toArray⟩]).run Tryz.prog w=.ok (.int .i64 (n:Int)) (w.setRow g (D4 size f cw (IP P r f n)).toArray):=by
 have hn2:n≤size-f:=by rw[← hn];exact Nat.min_le_right _ _
 have e:=OC (P:=Tryz.prog) w 90 9 3 5 g (3+f) (size-f) (256-f) n ⟨r.toArray⟩ _ _ Tryz.underlying90 (by kernel_rfl) h3 hn (by rw[List.size_toArray,LV hP];omega)
 rw[e]
 congr 3
 unfold D4 IP Go.Lib.byteCells
 rw[List.take_append,List.drop_append,List.map_append,List.map_append,List.map_take,List.map_take,List.map_drop]
 rw[List.take_of_length_le (by simp),List.drop_eq_nil_of_le (by simp;omega)]
 simp only[List.length_cons,List.length_nil]
 rw[show 3+f-(0+1+1+1)=f by omega,show 3+f+n-(0+1+1+1)=f+n by omega]
 simp only[List.nil_append,List.append_assoc,List.map_take]
 rfl
theorem Tryz.info_str:(Tryz.prog.info? 9).map (fun i=>(i.zero,i.size,i.bytes))=some (some (.string ByteArray.empty),1,16):=by kernel_rfl
theorem ET {w A B:World} {o r:Option Nat} (h:w.grownBy A o) (k:A.grownBy B r) (hr:∀ x,r=some x→w.heap.size≤x):w.grownBy B o :=
 ⟨k.os.trans h.os,k.tape.trans h.tape,k.output.trans h.output,Nat.le_trans h.size k.size,fun i hi hr'=>(k.block i (Nat.lt_of_lt_of_le hi h.size) (by intro e;have:=hr i e.symm;omega)).trans (h.block i hi hr')⟩
theorem Qs (w:World) (x:Obj) (o:Option Nat):w.grownBy (w.alloc x) o:=⟨rfl,rfl,rfl,by rw[show (w.alloc x).heap.size=w.heap.size+1 from Array.size_push ..];omega,fun i hi _=>Below.heap_alloc _ _ _ hi⟩
theorem Cx.emptied {W:World} {g size wr:Nat} {q:List UInt8} (h:Cx W g size q wr):Cx (W.setCell ⟨g,1,none⟩ (.int .i64 0)) g size [] wr:=by
 obtain⟨P,h1,h2,h3⟩:=h
 exact⟨P,h1,rfl,by have h:=AF (i:=1) h3 (.int .i64 ((0:Nat):Int));rwa [IM] at h⟩
theorem GI {size:Nat} (h0:0<size):∀ {bl:List (List UInt8)},(∀ b ∈ bl,b.length=size)→bl.length≤bl.flatten.length
 | [],_=>by simp
 | b::r,h=>by
   have h1:=h b (by simp)
   have h2:=GI h0 (bl:=r) fun x hx=>h x (by simp[hx])
   rw[List.length_cons,List.flatten_cons,List.length_append]
   omega
theorem Kf {r:List UInt8} {n:Nat}:Value.string ((⟨r.toArray⟩:ByteArray).extract n r.length)=Cd (r.drop n):=by
 unfold Cd
 congr 1
 apply ByteArray.ext
 rw[ByteArray.data_extract]
 apply Array.ext'
 rw[Array.toList_extract,List.extract_eq_take_drop]
 exact List.take_of_length_le (by rw[List.length_drop];exact Nat.le_refl _)
theorem V7 (g size wn b off cap:Nat) (q:List UInt8) (ss:List (List UInt8)) (w:World) (h:Cx w g size q wn) (hq:q.length<size) (hsz:size≤256)
    (hs:∀ i,(hi:i<ss.length)→w.cell? ⟨b,off+i,none⟩=some (Cd ss[i])) (hbg:b≠g) (hss:ss.length≤1000) (hn:wn+ss.flatten.length≤1099511627776) :
    Calls Tryz.prog 140 #[.pointer (some ⟨g,0,none⟩),.slice (some ⟨b,off,none⟩) ss.length cap] w fun e w'=>∃ v bl q',e=.returned v∧w'.ownsRow w.heap.size 9 1 v bl.length (bl.map Cd)∧DY size (q++ss.flatten) bl q'∧Cx w' g size q' (wn+ss.flatten.length)∧w.grownBy w' (some g):=by
 have H:=Lh h
 have HS:=Lh hs
 have HN1:=Lh hn
 have HQ:=Lh hq
 have hg:=h.lt
 have hb:b<w.heap.size∨ss.length=0:=by
  rcases Nat.eq_zero_or_pos ss.length with h0 | h0
  ·exact .inr h0
  ·refine .inl (Nat.lt_of_not_le fun hle=>?_)
   have:=hs 0 h0
   simp[World.cell?,Array.getElem?_eq_none hle] at this
 clear h hs hn hq
 go_enter Tryz.func140,Tryz.ntmps140
 go_wp2_with fail
 go_loopw [5,13] (fun v i W=>∃ j:Nat,∃ bl:List (List UInt8),∃ q':List UInt8,j≤ss.length∧i=.int .i64 (j:Int)∧W.ownsRow w.heap.size 9 1 v bl.length (bl.map Cd)∧DY size (q++(ss.take j).flatten) bl q'∧Cx W g size q' (wn+(ss.take j).flatten.length)∧w.grownBy W (some g)) (fun _ i _=>ss.length-(intOf i).toNat)
 case atStart =>
  exact⟨0,[],q,by omega,rfl,World.ownsRow_nil _ _ _ _,by simpa using DY.nil HQ.out,by simpa using H.out,IW _ _⟩
 case round =>
  obtain⟨j,bl,q',hj,rfl,hown,hcut,hbuf,hgr⟩:=hrel
  by_cases hlt:j<ss.length
  ·have hbW:b<w.heap.size:=by omega
   have ck:wr.cell? ⟨b,off+j,none⟩=some (Cd ss[j]):=by
    rw[← HS.out j hlt]
    exact World.cell?_of_block (w:=w) (a:=⟨b,off+j,none⟩) (hgr.block b hbW (by simpa using hbg))
   obtain⟨Q,hQ⟩:=exzb (q++(ss.take (j+1)).flatten)
   have hQ2:Q=bl.flatten++q'++ss[j]:=by rw[← hQ,JY hlt,← List.append_assoc,hcut.1]
   have hlen:=UR ss (j+1)
   have hn:=HN1.out
   rw[JY hlt,List.length_append] at hlen
   have hfl:(ss.take (j+1)).flatten.length=(ss.take j).flatten.length+ss[j].length:=by rw[JY hlt,List.length_append]
   obtain⟨c,hc⟩:=exzb (wn+(ss.take j).flatten.length)
   rw[hc] at hbuf
   have HF:=Lh (show wn+(ss.take (j+1)).flatten.length=c+ss[j].length by omega)
   have hcs:c+ss[j].length≤1099511627776:=by omega
   generalize ss[j]=s at *
   obtain⟨S,hS⟩:∃ S:ByteArray,S=⟨s.toArray⟩:=⟨_,rfl⟩
   have hSz:S.size=s.length:=by rw[hS];rfl
   rw[show Cd s=.string S by rw[hS];rfl] at ck
   have HB:=Lh (hbuf.written (c+s.length))
   obtain⟨P,hP1,hP2,hP3⟩:=id hbuf
   obtain⟨cw,hcw⟩:=exzb (c+s.length)
   obtain⟨c2,f2⟩:=Af hP3 Ed.2.2
   have HG:=Lh (BH hgr (CU wr g 2 (.int .i64 ((c+s.length:Nat):Int))))
   have HO:=Lh (Ga hown (CU wr g 2 (.int .i64 ((c+s.length:Nat):Int))) hg)
   have HQ2:=Lh hQ2
   have HQ1:=Lh hQ
   have HCU:=Lh hcut
   have HS2:=Lh hS
   have i1:(c:Int)+(s.length:Int)=(cw:Int):=by omega
   have i2:cw≤1099511627776:=by omega
   have i3:IntKind.i64.wrap ((c:Int)+(s.length:Int))=(cw:Int):=by rw[i1];exact IntWalk.i64_in _ (by omega)
   have HC:=Lh hcw
   rw[hcw] at HB HG HO HF
   clear hbuf hcut hown hgr hP1 hP2 hP3 hQ2 hlen hn hfl hc hcs hS hQ hcw
   go_wp2_with fail
   generalize wr.setCell ⟨g,2,none⟩ (.int .i64 (cw:Int))=W1 at *
   clear ck c2 f2 hSz i1 i3
   go_loopw [5,7] (fun v x W=>∃ Bl:List (List UInt8),∃ q2 r:List UInt8,x=Cd r∧Q=Bl.flatten++q2++r∧(∀ b ∈ Bl,b.length=size)∧q2.length<size∧W.ownsRow w.heap.size 9 1 v Bl.length (Bl.map Cd)∧Cx W g size q2 cw∧w.grownBy W (some g)) (fun _ x _=>match x with | .string S=>S.size | _=>0)
   case atStart =>
    exact⟨bl,q',s,by rw[HS2.out];rfl,HQ2.out,HCU.out.2.1,HCU.out.2.2,HO.out,HB.out,HG.out⟩
   case round =>
    clear HQ2 HCU HO HB HG HS2
    obtain⟨Bl,q2,r,rfl,hQ,hall,hq2,hown,hbuf,hgr⟩:=hrel
    obtain⟨R,hR⟩:∃ R:ByteArray,R=⟨r.toArray⟩:=⟨_,rfl⟩
    have hRz:R.size=r.length:=by rw[hR];rfl
    rw[show Cd r=.string R by rw[hR];rfl]
    have HB:=Lh hbuf
    have HO:=Lh hown
    have HG:=Lh hgr
    have HQ2:=Lh hQ
    have HA:=Lh hall
    have HR:=Lh hR
    by_cases hr0:r.length=0
    ·clear hbuf hown hgr hQ hall hR
     go_wp2_with fail
     go_roundw
     case rel =>
      have e0:r=[]:=List.length_eq_zero_iff.1 hr0
      have hq4:=HQ2.out
      rw[e0,List.append_nil] at hq4
      exact⟨j+1,Bl,q2,by omega,rfl,HO.out,⟨HQ1.out.trans hq4,HA.out,hq2⟩,by rw[HF.out];exact HB.out,HG.out⟩
     case measure =>
      simp[intOf]
      omega
    ·have hr1:0<(r.length:Int):=by omega
     obtain⟨P,hP1,hP2,hP3⟩:=hbuf
     obtain⟨c0,f0⟩:=Af hP3 Ed.1
     obtain⟨c1,f1⟩:=Af hP3 Ed.2.1
     generalize hf:q2.length=f at *
     have i5:(f:Int)≤(size:Int):=by omega
     have i6:(size:Int)≤256:=by omega
     obtain⟨n,hn⟩:=exzb (Nat.min r.length (size-f))
     have hn1:n≤r.length:=by rw[← hn];exact Nat.min_le_left _ _
     have hn2:n≤size-f:=by rw[← hn];exact Nat.min_le_right _ _
     have kc:=UZ (w:=wr.drew) hP3 hP1 (by omega) hsz hn
     rw[← hR] at kc
     have i7:¬ 256=f:=by omega
     have hb2:=setRow_heap wr.drew g _ (D4 size f cw (IP P r f n)).toArray _ _ hP3
     have HP1:=Lh (VF hP1 (show f+n≤256 by omega) hn1)
     have HP2:=Lh (Sx (r:=r) hP1 (show f+n≤256 by omega) hn1)
     rw[hP2] at HP2
     have HG2:=Lh (BH (BH hgr (CQ wr (some g))) (GZ wr.drew g (D4 size f cw (IP P r f n)).toArray))
     have HO2:=Lh (Ga (Ga hown (CQ wr (some g)) hg) (GZ wr.drew g (D4 size f cw (IP P r f n)).toArray) hg)
     generalize IP P r f n=P2 at *
     have HN:=Lh hn
     clear hown hgr hQ hall hR hP1 hP2 hP3 hr0 f0 f1 HB HO HG hn
     go_wp2_with fail
     go_region
     go_wp2_with fail
     clear kc c0 c1
     generalize wr.drew.setRow g (D4 size f cw P2).toArray=W2 at *
     obtain⟨f2,hf2⟩:=exzb (f+n)
     have hl2:(q2++r.take n).length=f2:=by rw[List.length_append,List.length_take];omega
     obtain⟨c1,g1⟩:=Af hb2 Ed.2.1
     obtain⟨c0,g0⟩:=Af hb2 Ed.1
     have HB3:Hid (Cx (W2.drew.setCell ⟨g,1,none⟩ (.int .i64 (f2:Int))) g size (q2++r.take n) cw):=⟨P2,HP1.out,by rw[hl2,← hf2];exact HP2.out,by
      have h:=AF (i:=1) (show W2.drew.heap[g]?=_ from hb2) (.int .i64 (f2:Int))
      rw[IM] at h
      rw[hl2]
      exact h⟩
     have HG3:=Lh (BH (BH HG2.out (CQ W2 (some g))) (CU W2.drew g 1 (.int .i64 (f2:Int))))
     have HO3:=Lh (Ga (Ga HO2.out (CQ W2 (some g)) hg) (CU W2.drew g 1 (.int .i64 (f2:Int))) hg)
     have i8:(f:Int)+(n:Int)=(f2:Int):=by omega
     have i9:IntKind.i64.wrap ((f:Int)+(n:Int))=(f2:Int):=by rw[i8];exact IntWalk.i64_in _ (by omega)
     have i10:(n:Int)≤(r.length:Int):=by omega
     have i11:(0:Int)≤(n:Int):=by omega
     clear HG2 HO2 hb2 HP1 HP2
     change Hid (Cx (W2.setCell ⟨g,1,none⟩ (.int .i64 (f2:Int))).drew g size (q2++r.take n) cw) at HB3
     change Hid (w.grownBy (W2.setCell ⟨g,1,none⟩ (.int .i64 (f2:Int))).drew (some g)) at HG3
     change Hid ((W2.setCell ⟨g,1,none⟩ (.int .i64 (f2:Int))).drew.ownsRow w.heap.size 9 1 u5 Bl.length (Bl.map Cd)) at HO3
     go_region
     go_wp2_with fail
     generalize (W2.setCell ⟨g,1,none⟩ (.int .i64 (f2:Int))).drew=W3 at *
     clear c1 g1 c0 g0 i8 i9
     rw[show R.extract n r.length=(⟨r.toArray⟩:ByteArray).extract n r.length by rw[HR.out],Kf]
     obtain⟨P3,hP1,hP2,hP3⟩:=id HB3.out
     rw[hl2] at hP3
     obtain⟨c0,f0⟩:=Af hP3 Ed.1
     obtain⟨c1,f1⟩:=Af hP3 Ed.2.1
     have HD:=Lh (show r.take n++r.drop n=r from List.take_append_drop n r)
     generalize hq3:q2++r.take n=q3 at *
     have HQ3:Hid (Q=Bl.flatten++q3++r.drop n):=by
      show Q=_
      have hd:=HD.out
      rw[HQ2.out,← hq3]
      simp only[List.append_assoc,hd]
     have hrd:(r.drop n).length=r.length-n:=List.length_drop
     have hn0:0<n:=by have:=HN.out;rw[← this];exact Nat.lt_min.2 ⟨by omega,by omega⟩
     generalize r.drop n=r3 at *
     clear hP1 hP2 hP3 HQ2 HD hq3
     by_cases hfs:f2=size
     ·subst hfs
      go_region
      go_wp2_with fail
      refine (aI g f2 cw q3 W3.drew HB3.out (by omega)).mono ?_
      rintro e w5 ⟨rfl,rfl⟩
      have kcv:=Xh (w:=W3.drew.drew) HB3.out (by omega)
      have hm:=GI (by omega) HA.out
      have hql:Bl.flatten.length≤1099511627776+256:=by
       have h1:=congrArg List.length HQ3.out
       have h2:=congrArg List.length HQ1.out
       have h3:=HN1.out
       have h4:=UR ss (j+1)
       have h5:=HQ.out
       simp only[List.length_append] at h1 h2
       omega
      have hown:=Ga HO3.out (BH (CQ W3 (some g)) (CQ W3.drew (some g))) hg
      have hgr:=BH HG3.out (BH (CQ W3 (some g)) (CQ W3.drew (some g)))
      obtain⟨i0,hi,hz0,hz1,hz2⟩:=info_parts Tryz.info_str
      have hB4:Cx W3.drew.drew g f2 q3 cw:=HB3.out
      generalize W3.drew.drew=W4 at *
      rw[hl2] at kcv
      have hws:w.heap.size≤W4.heap.size:=hgr.size
      clear c0 f0 c1 f1 HO3 HG3 HB3
      obtain⟨X,hX⟩:∃ X,Cd q3=.string X:=⟨_,rfl⟩
      rw[hX] at kcv
      have HX:=Lh hX
      have hne:u5.ownBlock≠some g:=fun e1=>by have:=(hown.lt g e1).1;omega
      have HE:=Lh hne
      have hsa:(W4.alloc (.cells #[.string X] 9)).heap.size=W4.heap.size+1:=Array.size_push ..
      have HSA:=Lh hsa
      have HOL:=Lh hown.lt
      clear hX hne hsa
      go_wp2_with (at_builtin;refine wpList_append_own _ rfl (.tmp 64) (.tmp 68) 74 rfl w.heap.size 9 i0 (.string ByteArray.empty) 1 16 Tryz.underlying74 hi hz0 hz1 hz2 rfl (by decide) u5 Bl.length _ (by simp[Act.eval]) (by exact hown.alloc _) ⟨W4.heap.size,0,none⟩ 1 1 [.string X] (by simp[Act.eval]) rfl (by exact BK W4 #[_] _) (by simp[Value.oneCell']) (by unfold maxLen;omega) (by omega) (by show _≤(W4.heap.push _).size;rw[Array.size_push];omega) ?_;intro v6 w6 hown6 hgr6 _;have hB6:Cx w6 g f2 q3 cw:=hB4.of_block ((hgr6.block g (by have:=HSA.out;have:=hB4.lt;omega) (fun e1=>HE.out e1.symm)).trans (Below.heap_alloc _ _ _ hB4.lt));have hgr7:=ET (BH hgr (Qs W4 (.cells #[.string X] 9) (some g))) hgr6 (fun x hx=>(HOL.out x hx).1);obtain⟨P6,h61,h62,h63⟩:=id hB6;obtain⟨c6,e6⟩:=Af h63 Ed.2.1;clear h61 h62 h63 hgr6 hgr hown)
      have hown7:w6.ownsRow w.heap.size 9 1 v6 (Bl++[q3]).length ((Bl++[q3]).map Cd):=by
       rw[List.length_append,List.map_append,List.map_cons,List.map_nil,HX.out]
       exact hown6
      go_roundw
      case rel =>
       refine⟨Bl++[q3],[],r3,rfl,?_,?_,by show 0<f2;omega,Ga hown7 (CU w6 g 1 (.int .i64 0)) hg,hB6.emptied,BH hgr7 (CU w6 g 1 (.int .i64 0))⟩
       ·rw[HQ3.out];simp
       ·intro x hx
        rcases List.mem_append.1 hx with hx | hx
        ·exact HA.out x hx
        ·have e:x=q3:=by simpa using hx
         rw[e];exact hl2
      case measure =>
       show (⟨r3.toArray⟩:ByteArray).size<R.size
       rw[hRz,OX]
       omega
     ·have k1:¬ (f2:Int)=(size:Int):=by omega
      go_region
      go_wp2_with fail
      go_roundw
      case rel=>exact⟨Bl,q3,r3,rfl,HQ3.out,HA.out,by omega,Ga HO3.out (CQ W3 (some g)) hg,HB3.out,BH HG3.out (CQ W3 (some g))⟩
      case measure => 
       show (⟨r3.toArray⟩:ByteArray).size<R.size
       rw[hRz,OX]
       omega
  ·have e1:j=ss.length:=by omega
   subst e1
   rw[List.take_length] at hcut hbuf
   have HO:=Lh hown
   have HC:=Lh hcut
   have HB:=Lh hbuf
   have HG:=Lh hgr
   clear hown hcut hbuf hgr
   go_wp2_with fail
   go_ret
   exact⟨u5,bl,q',rfl,HO.out,HC.out,HB.out,HG.out⟩
theorem SP (g size wn cap:Nat) (a:Option Addr) (w:World):Calls Tryz.prog 140 #[.pointer (some ⟨g,0,none⟩),.slice a 0 cap] w fun e w'=>e=.returned (.slice none 0 0)∧w=w':=by
 go_enter Tryz.func140,Tryz.ntmps140
 go_wp2_with fail
 refine wp_loop_rounds 1 ?_
 rw[rounds_succ]
 go_wp2
 go_ret
 exact⟨rfl,rfl⟩
theorem Sz (g size wn cap:Nat) (a:Option Addr) (q:List UInt8) (ss:List (List UInt8)) (w:World) (h:Cx w g size q wn) (hq:q.length<size) (hsz:size≤256)
    (hs:ss=[]∨∃ b off,a=some ⟨b,off,none⟩∧b≠g∧∀ i,(hi:i<ss.length)→w.cell? ⟨b,off+i,none⟩=some (Cd ss[i])) (hss:ss.length≤1000) (hn:wn+ss.flatten.length≤1099511627776) :
    Calls Tryz.prog 140 #[.pointer (some ⟨g,0,none⟩),.slice a ss.length cap] w fun e w'=>∃ v bl q',e=.returned v∧w'.ownsRow w.heap.size 9 1 v bl.length (bl.map Cd)∧DY size (q++ss.flatten) bl q'∧Cx w' g size q' (wn+ss.flatten.length)∧w.grownBy w' (some g):=by
 rcases hs with rfl | ⟨b,off,rfl,hbg,hc⟩
 ·refine (SP g size wn cap a w).mono ?_
  rintro e w' ⟨rfl,rfl⟩
  exact⟨_,[],q,rfl,World.ownsRow_nil _ _ _ _,by simpa using DY.nil hq,by simpa using h,IW _ _⟩
 ·exact V7 g size wn b off cap q ss w h hq hsz hc hbg hss hn
def hrow (g:Nat) (hs ks:List Nat):List Value:=.pointer (some ⟨g,0,none⟩)::(Cw hs++Cw ks)
theorem Dp (g:Nat) (hs ks:List Nat) (i:Nat) (h:i<hs.length):(hrow g hs ks)[1+i]?=some (.int .u64 (hs.getD i 0:Int)):=by
 unfold hrow
 rw[Nat.add_comm,List.getElem?_cons_succ,List.getElem?_append_left (by rw[CJ];exact h),FM _ _ h]
theorem QG (g:Nat) (hs ks:List Nat) (i:Nat) (h8:hs.length=8) (h:i<ks.length):(hrow g hs ks)[9+i]?=some (.int .u64 (ks.getD i 0:Int)):=by
 unfold hrow
 rw[show 9+i=(8+i)+1 by omega,List.getElem?_cons_succ,List.getElem?_append_right (by rw[CJ];omega),CJ,show 8+i-hs.length=i by omega,FM _ _ h]
theorem Qg (g:Nat) (hs ks:List Nat) (i x:Nat) (h:i<hs.length):(hrow g hs ks).set (1+i) (.int .u64 (x:Int))=hrow g (hs.set i x) ks:=by
 unfold hrow Cw
 rw[Nat.add_comm,List.set_cons_succ,List.set_append_left _ _ (by rw[List.length_map];exact h),List.map_set]
theorem DU {w w':World} (h:Below w.heap.size w w') (o:Option Nat):w.grownBy w' o:=⟨h.os,h.tape,h.output,h.size,fun i hi _=>h.block i hi⟩
def ZY (l:List Nat):List Value:=[.int .u64 (l.getD 0 0:Int),.int .u64 (l.getD 1 0:Int),.int .u64 (l.getD 2 0:Int),.int .u64 (l.getD 3 0:Int),.int .u64 (l.getD 4 0:Int),.int .u64 (l.getD 5 0:Int),.int .u64 (l.getD 6 0:Int),.int .u64 (l.getD 7 0:Int)]
theorem aa {l:List Nat} (h:l.length=8):Cw l=ZY l:=by
 match l,h with
 | [a,b,c,d,e,f,g,i],_=>rfl
def Hi (hs vs:List Nat) (i:Nat):List Nat:=(List.range 8).map fun j=>if j<i then (hs.getD j 0+vs.getD j 0)%M64 else hs.getD j 0
theorem Mr (hs vs:List Nat) (i:Nat):(Hi hs vs i).length=8:=by simp[Hi]
theorem WQ (hs vs:List Nat) (h:hs.length=8):Hi hs vs 0=hs:=by
 match hs,h with
 | [a,b,c,d,e,f,g,i],_=>rfl
theorem YI (hs vs:List Nat):Hi hs vs 8=(List.range 8).map fun j=>(hs.getD j 0+vs.getD j 0)%M64:=rfl
theorem QF (hs vs:List Nat) (i:Nat) (h:i<8):(Hi hs vs i).getD i 0=hs.getD i 0:=by
 match i,h with
 | 0,_=>rfl
 | 1,_=>rfl
 | 2,_=>rfl
 | 3,_=>rfl
 | 4,_=>rfl
 | 5,_=>rfl
 | 6,_=>rfl
 | 7,_=>rfl
theorem ZB (hs vs:List Nat) (i:Nat) (h:i<8):(Hi hs vs i).set i ((hs.getD i 0+vs.getD i 0)%M64)=Hi hs vs (i+1):=by
 match i,h with
 | 0,_=>rfl
 | 1,_=>rfl
 | 2,_=>rfl
 | 3,_=>rfl
 | 4,_=>rfl
 | 5,_=>rfl
 | 6,_=>rfl
 | 7,_=>rfl
theorem LB {w A B:World} {o:Option Nat} (h:w.grownBy A o) (k:A.grownBy B o):w.grownBy B o :=
 ⟨k.os.trans h.os,k.tape.trans h.tape,k.output.trans h.output,Nat.le_trans h.size k.size,fun i hi hr=>(k.block i (Nat.lt_of_lt_of_le hi h.size) hr).trans (h.block i hi hr)⟩
theorem Yw (l:List Nat):(Cw l).toArray.all (·.oneCell')=true:=Array.all_eq_true_iff_forall_mem.2 (fun v hv=>by
 have hv:v ∈ Cw l:=by simpa using hv
 unfold Cw at hv
 obtain⟨x,_,rfl⟩:=List.mem_map.1 hv
 rfl)
theorem U7 (h g:Nat) (hs ks:List Nat) (s:ByteArray) (w:World) (hh:w.heap[h]?=some (.cells (hrow g hs ks).toArray 165 (0,0))) (h8:hs.length=8) (k64:ks.length=80)
    (hhs:∀ x ∈ hs,x<M64) (hks:∀ x ∈ ks,x<M64) (hs64:s.size=128) :
    Calls Tryz.prog 141 #[.pointer (some ⟨h,0,none⟩),.string s] w fun e w'=>e=.returned (.tuple #[])∧w'.heap[h]?=some (.cells (hrow g (Fu hs ks (Bd s 16)) ks).toArray 165 (0,0))∧w.grownBy w' (some h):=by
 have KSp:=Lh (fun w=>TF s w hs64)
 unfold Fu
 obtain⟨Ws,hWs⟩:=exzb (wsN (Bd s 16) 64)
 have hWl:Ws.length=80:=by rw[← hWs,Ja,GN]
 have hWlt:∀ x ∈ Ws,x<M64:=by
  rw[← hWs]
  refine Mc _ (fun x hx=>?_) 64
  unfold Bd at hx
  obtain⟨t,ht,rfl⟩:=List.mem_map.1 hx
  have:=List.mem_range.1 ht
  exact GF s t (by omega)
 rw[hWs] at KSp ⊢
 have HW:=Lh (And.intro hWl hWlt)
 have HK:=Lh (And.intro k64 hks)
 have HS:=Lh (And.intro h8 hhs)
 have H0:=Lh hh
 have hlt:h<w.heap.size:=(Array.getElem?_eq_some_iff.1 hh).1
 clear hWs hWl hWlt k64 hks h8 hhs hh hs64
 go_enter Tryz.func141,Tryz.ntmps141
 go_wp2_with fail
 refine (KSp.out _).mono ?_
 rintro e w1 ⟨rfl,hb1⟩
 have H1:=Lh (DM H0.out hb1)
 have G1:=Lh (DU hb1 (some h))
 have hlt1:h<w1.heap.size:=Nat.lt_of_lt_of_le hlt hb1.size
 have LT1:=Lh (And.intro hlt (And.intro hlt1 hb1.size))
 clear hb1 H0 KSp hlt hlt1
 dsimp only
 iterate 5 go_step
 change Oper.wp _ _ _ (w1.alloc zobj) _ _
 refine wp_store_row 161 (.tmp 4) (.tmp 12) rfl w1.heap.size (Cw Ws).toArray (by simp[Act.eval]) (by simp[Act.eval]) 161 _ (C9 w1 zobj).1 (by rw[List.size_toArray,CJ,HW.out.1];kernel_rfl) (by rw[show (Cw Ws).toArray.size=80 by rw[List.size_toArray,CJ,HW.out.1]];kernel_rfl) (Array.all_eq_true_iff_forall_mem.2 (fun v hv=>by
  have hv:v ∈ Cw Ws:=by simpa using hv
  unfold Cw at hv
  obtain⟨x,_,rfl⟩:=List.mem_map.1 hv
  rfl)) ?_
 simp only[nmA]
 have e4:=setRow_heap (w1.alloc zobj) w1.heap.size _ (Cw Ws).toArray _ _ (C9 w1 zobj).1
 have eh:=(setRow_other (w1.alloc zobj) w1.heap.size h (Cw Ws).toArray (Nat.ne_of_lt LT1.out.2.1)).trans (DM H1.out (C9 w1 zobj).2)
 have eB:=below_setRow (C9 w1 zobj).2 (Nat.le_refl _) (Cw Ws).toArray
 have eg:=ET G1.out (DU eB (some w1.heap.size)) (fun x hx=>by cases hx;exact LT1.out.2.2)
 have es:((w1.alloc zobj).setRow w1.heap.size (Cw Ws).toArray).heap.size=w1.heap.size+1:=by
  rw[show ((w1.alloc zobj).setRow w1.heap.size (Cw Ws).toArray).heap.size=(w1.alloc zobj).heap.size by simp[World.setRow]]
  exact Array.size_push ..
 generalize (w1.alloc zobj).setRow w1.heap.size (Cw Ws).toArray=W2 at *
 have E4:=Lh e4
 have EG:=Lh eg
 have ES:=Lh es
 have c0:=(Af eh (Dp g hs ks 0 (by rw[HS.out.1];decide))).1
 have c1:=(Af eh (Dp g hs ks 1 (by rw[HS.out.1];decide))).1
 have c2:=(Af eh (Dp g hs ks 2 (by rw[HS.out.1];decide))).1
 have c3:=(Af eh (Dp g hs ks 3 (by rw[HS.out.1];decide))).1
 have c4:=(Af eh (Dp g hs ks 4 (by rw[HS.out.1];decide))).1
 have c5:=(Af eh (Dp g hs ks 5 (by rw[HS.out.1];decide))).1
 have c6:=(Af eh (Dp g hs ks 6 (by rw[HS.out.1];decide))).1
 have c7:=(Af eh (Dp g hs ks 7 (by rw[HS.out.1];decide))).1
 have EH:=Lh eh
 clear e4 eh eB eg es H1 G1
 simp only[Nat.reduceAdd] at c0 c1 c2 c3 c4 c5 c6 c7
 go_wp2_with fail
 change Code.wp _ _ _ _ (W2.alloc (.cells (ZY hs).toArray 160))
 have f5:=(C9 W2 (.cells (ZY hs).toArray 160)).1
 have fB:=(C9 W2 (.cells (ZY hs).toArray 160)).2
 have f4:=DM E4.out fB
 have fh:=DM EH.out fB
 have fg:=ET EG.out (DU fB none) (fun x hx=>by cases hx)
 have l5:w.heap.size≤W2.heap.size:=by have:=ES.out;have:=LT1.out.2.2;omega
 have n4:w1.heap.size≠W2.heap.size:=by have:=ES.out;omega
 have nh:h≠W2.heap.size:=by have:=ES.out;have:=LT1.out.2.1;omega
 generalize W2.alloc (.cells (ZY hs).toArray 160)=W3 at f5 fB f4 fh fg ⊢
 generalize W2.heap.size=b5 at *
 generalize w1.heap.size=b4 at *
 have F5:=Lh f5
 have F4:=Lh f4
 have FH:=Lh fh
 have FG:=Lh fg
 have HNE:=Lh (And.intro l5 (And.intro n4 nh))
 clear f5 fB f4 fh fg l5 n4 nh c0 c1 c2 c3 c4 c5 c6 c7 E4 EG ES EH LT1
 have HMIX:=Lh (show Tryz.prog.follows .mixedOrders=true by kernel_rfl)
 go_loopw [17] (fun v W=>∃ k:Nat,k≤80∧v=.int .i64 (k:Int)∧W.heap[b5]?=some (.cells (Cw (rnds hs ks Ws k)).toArray 160 (0,0))∧W.heap[b4]?=some (.cells (Cw Ws).toArray 161 (0,0))∧W.heap[h]?=some (.cells (hrow g hs ks).toArray 165 (0,0))∧w.grownBy W (some h)) (fun v _=>80-(intOf v).toNat)
 case atStart=>exact⟨0,by omega,rfl,by rw[show rnds hs ks Ws 0=hs from rfl,aa HS.out.1];exact F5.out,F4.out,FH.out,FG.out⟩
 case round =>
  clear F5 F4 FH FG
  obtain⟨k,hk,rfl,r5,r4,rh,rg⟩:=hrel
  have hAl:=QD hs ks Ws HS.out.1 k
  have hAlt:=Ot hs ks Ws HS.out.2 k
  by_cases hlt:k<80
  ·have hA1:rnds hs ks Ws (k+1)=rnd (rnds hs ks Ws k) (ks.getD k 0) (Ws.getD k 0):=rfl
   have ck:=(Af rh (QG g hs ks k HS.out.1 (by rw[HK.out.1];exact hlt))).1
   have cw:=(Af r4 (FM Ws k (by rw[HW.out.1];exact hlt))).1
   have hq:∀ i,i<8→wr.cell? ⟨b5,i,none⟩=some (.int .u64 ((rnds hs ks Ws k).getD i 0:Int)):=fun i hi=>(Af r5 (FM _ i (by omega))).1
   have q0:=hq 0 (by omega)
   have q1:=hq 1 (by omega)
   have q2:=hq 2 (by omega)
   have q3:=hq 3 (by omega)
   have q4:=hq 4 (by omega)
   have q5:=hq 5 (by omega)
   have q6:=hq 6 (by omega)
   have q7:=hq 7 (by omega)
   have l0:=BF hAlt 0
   have l1:=BF hAlt 1
   have l2:=BF hAlt 2
   have l4:=BF hAlt 4
   have l5:=BF hAlt 5
   have l6:=BF hAlt 6
   have l7:=BF hAlt 7
   have lk:=BF HK.out.2 k
   have lw:=BF HW.out.2 k
   have hR:rnds hs ks Ws (k+1)=[((((rnds hs ks Ws k).getD 7 0+Mk ((rnds hs ks Ws k).getD 4 0)+BP ((rnds hs ks Ws k).getD 4 0) ((rnds hs ks Ws k).getD 5 0) ((rnds hs ks Ws k).getD 6 0)+ks.getD k 0+Ws.getD k 0)%M64)+((O6 ((rnds hs ks Ws k).getD 0 0)+CN ((rnds hs ks Ws k).getD 0 0) ((rnds hs ks Ws k).getD 1 0) ((rnds hs ks Ws k).getD 2 0))%M64))%M64,(rnds hs ks Ws k).getD 0 0,(rnds hs ks Ws k).getD 1 0,(rnds hs ks Ws k).getD 2 0,((rnds hs ks Ws k).getD 3 0+(((rnds hs ks Ws k).getD 7 0+Mk ((rnds hs ks Ws k).getD 4 0)+BP ((rnds hs ks Ws k).getD 4 0) ((rnds hs ks Ws k).getD 5 0) ((rnds hs ks Ws k).getD 6 0)+ks.getD k 0+Ws.getD k 0)%M64))%M64,(rnds hs ks Ws k).getD 4 0,(rnds hs ks Ws k).getD 5 0,(rnds hs ks Ws k).getD 6 0]:=by rw[hA1];rfl
   have hz5:(Cw (rnds hs ks Ws k)).toArray.size=8:=by rw[List.size_toArray,CJ,hAl]
   clear hq hAl hAlt hA1
   generalize (rnds hs ks Ws k).getD 0 0=v0 at *
   generalize (rnds hs ks Ws k).getD 1 0=v1 at *
   generalize (rnds hs ks Ws k).getD 2 0=v2 at *
   generalize (rnds hs ks Ws k).getD 3 0=v3 at *
   generalize (rnds hs ks Ws k).getD 4 0=v4 at *
   generalize (rnds hs ks Ws k).getD 5 0=v5 at *
   generalize (rnds hs ks Ws k).getD 6 0=v6 at *
   generalize (rnds hs ks Ws k).getD 7 0=v7 at *
   generalize ks.getD k 0=kt at *
   generalize Ws.getD k 0=wt at *
   have KT1:Hid (∀ (b:Nat) (W:World),W.heap[b]?=some (.cells #[.int .i64 ((14:Nat):Int),.int .i64 ((18:Nat):Int),.int .i64 ((41:Nat):Int)] 3 (0,0))→Calls Tryz.prog 181 #[.int .u64 (v4:Int),.slice (some ⟨b,0,none⟩) 3 3] W fun e w'=>e=.returned (.int .u64 (Mk v4:Int))∧Below W.heap.size W w'):=Kq v4 14 18 41 l4 (by decide) (by decide) (by decide)
   have KT0:Hid (∀ (b:Nat) (W:World),W.heap[b]?=some (.cells #[.int .i64 ((28:Nat):Int),.int .i64 ((34:Nat):Int),.int .i64 ((39:Nat):Int)] 3 (0,0))→Calls Tryz.prog 181 #[.int .u64 (v0:Int),.slice (some ⟨b,0,none⟩) 3 3] W fun e w'=>e=.returned (.int .u64 (O6 v0:Int))∧Below W.heap.size W w'):=Kq v0 28 34 39 l0 (by decide) (by decide) (by decide)
   have KC:=Lh (Wl v4 v5 v6 l4 l5 l6)
   have KM:=Lh (cc v0 v1 v2 l0 l1 l2)
   have KS5:=Lh (ZW v7 (Mk v4) (BP v4 v5 v6) kt wt l7)
   have KS2:=Lh (bi (O6 v0) (CN v0 v1 v2) (UB v0 l0))
   generalize (v7+Mk v4+BP v4 v5 v6+kt+wt)%M64=X at *
   generalize (O6 v0+CN v0 v1 v2)%M64=Y at *
   generalize Mk v4=g1 at *
   generalize O6 v0=g0 at *
   generalize BP v4 v5 v6=ch at *
   generalize CN v0 v1 v2=mj at *
   have wZ:IntKind.u64.wrap ((X:Int)+(Y:Int))=(((X+Y)%M64:Nat):Int):=by rw[← Fj,Int.natCast_add]
   have wU:IntKind.u64.wrap ((v3:Int)+(X:Int))=(((v3+X)%M64:Nat):Int):=by rw[← Fj,Int.natCast_add]
   generalize (X+Y)%M64=Z at *
   generalize (v3+X)%M64=U at *
   have R5:=Lh r5
   have R4:=Lh r4
   have RH:=Lh rh
   have RG:=Lh rg
   have HR:=Lh hR
   have HZ5:=Lh hz5
   have HT:=Lh hlt
   have p1:(k:Int)<80:=by omega
   have wk:IntKind.i64.wrap ((k:Int)+1)=(k:Int)+1:=by rw[IntKind.wrap_i64];omega
   have Q:=Lh (And.intro q0 (And.intro q1 (And.intro q2 (And.intro q3 (And.intro q4 (And.intro q5 q6))))))
   clear r5 r4 rh rg hR hz5 hlt l0 l1 l2 l4 l5 l6 l7 lk lw q0 q1 q2 q3
   go_wp2_with fail
   have d4:=fun d os=>cell_regrown q4 d os
   have d5:=fun d os=>cell_regrown q5 d os
   have d6:=fun d os=>cell_regrown q6 d os
   have d7:=fun d os=>cell_regrown q7 d os
   have dk:=fun d os=>cell_regrown ck d os
   have dw:=fun d os=>cell_regrown cw d os
   clear q4 q5 q6 q7 ck cw
   refine Ge HMIX.out (by kernel_rfl) ?_
   repeat (first
    | (refine Dd (by rfl) (by rfl) ?_;simp only[nmA])
    | (refine DZ (v:=?_) (by rfl) (by rfl) (fun d os=>?_) ?_;rotate_left;(focus (go_simp;(try with_reducible rfl);done));simp only[nmA]))
   refine Oq (fun b=>.slice (some ⟨b,0,none⟩) 3 3) (.cells #[.int .i64 ((14:Nat):Int),.int .i64 ((18:Nat):Int),.int .i64 ((41:Nat):Int)] 3 (0,0)) (by rfl) (by rfl) (fun d os=>?_) ?_;(focus (go_simp;done));simp only[List.nil_append,List.cons_append]
   repeat (first
    | (refine Dd (by rfl) (by rfl) ?_;simp only[nmA])
    | (refine DZ (v:=?_) (by rfl) (by rfl) (fun d os=>?_) ?_;rotate_left;(focus (go_simp;(try with_reducible rfl);done));simp only[nmA]))
   refine Ij (v:=_) (f:=181) (args:=fun b=>#[.int .u64 (v4:Int),.slice (some ⟨b,0,none⟩) 3 3]) (by rfl) (by rfl) (fun b=>by rfl) (fun b d os=>by (simp only[nmA];go_simp;done)) KT1.out ?_;simp only[nmA]
   repeat (first
    | (refine Dd (by rfl) (by rfl) ?_;simp only[nmA])
    | (refine DZ (v:=?_) (by rfl) (by rfl) (fun d os=>?_) ?_;rotate_left;(focus (go_simp;(try with_reducible rfl);done));simp only[nmA]))
   refine QO (args:=?_) (v:=?_) (f:=182) (by rfl) (by rfl) (fun d os=>?_) (fun d os=>?_) ?_;rotate_left 3;(focus (with_reducible exact KC.out _;done));rotate_left;(focus (go_simp;done));simp only[nmA]
   repeat (first
    | (refine Dd (by rfl) (by rfl) ?_;simp only[nmA])
    | (refine DZ (v:=?_) (by rfl) (by rfl) (fun d os=>?_) ?_;rotate_left;(focus (go_simp;(try with_reducible rfl);done));simp only[nmA]))
   refine Oq (fun b=>.slice (some ⟨b,0,none⟩) 5 5) (.cells #[.int .u64 (v7:Int),.int .u64 (g1:Int),.int .u64 (ch:Int),.int .u64 (kt:Int),.int .u64 (wt:Int)] 22 (0,0)) (by rfl) (by rfl) (fun d os=>?_) ?_;(focus (go_simp;done));simp only[List.nil_append,List.cons_append]
   repeat (first
    | (refine Dd (by rfl) (by rfl) ?_;simp only[nmA])
    | (refine DZ (v:=?_) (by rfl) (by rfl) (fun d os=>?_) ?_;rotate_left;(focus (go_simp;(try with_reducible rfl);done));simp only[nmA]))
   refine Ij (v:=_) (f:=180) (args:=fun b=>#[.slice (some ⟨b,0,none⟩) 5 5]) (by rfl) (by rfl) (fun b=>by rfl) (fun b d os=>by (simp only[nmA];go_simp;done)) KS5.out ?_;simp only[nmA]
   repeat (first
    | (refine Dd (by rfl) (by rfl) ?_;simp only[nmA])
    | (refine DZ (v:=?_) (by rfl) (by rfl) (fun d os=>?_) ?_;rotate_left;(focus (go_simp;(try with_reducible rfl);done));simp only[nmA]))
   refine Q8 (t:=24) (t':=42) (by rfl) (by rfl) (fun n1 n2 d os=>?_)
   have BW:=below_regrown wr d os
   have e5:=DM R5.out BW
   have e4:=DM R4.out BW
   have eh:=DM RH.out BW
   have eg:=ET RG.out (DU BW none) (fun x hx=>by cases hx)
   have q0:=cell_regrown Q.out.1 d os
   have q1:=cell_regrown Q.out.2.1 d os
   have q2:=cell_regrown Q.out.2.2.1 d os
   have q3:=cell_regrown Q.out.2.2.2.1 d os
   have q4:=cell_regrown Q.out.2.2.2.2.1 d os
   have q5:=cell_regrown Q.out.2.2.2.2.2.1 d os
   have q6:=cell_regrown Q.out.2.2.2.2.2.2 d os
   generalize Sort.grow (redrawn wr d) os=W at *
   simp only[nmA]
   have E5:=Lh e5
   have E4:=Lh e4
   have EH:=Lh eh
   have EG:=Lh eg
   have QE:=Lh (And.intro q0 (And.intro q1 (And.intro q2 (And.intro q3 (And.intro q4 (And.intro q5 q6))))))
   clear BW R5 R4 RH RG e5 e4 eh eg Q d4 d5 d6 d7 dk dw q3 q4 q5 q6
   go_wp2_with fail
   have d0:=fun d os=>cell_regrown q0 d os
   have d1:=fun d os=>cell_regrown q1 d os
   have d2:=fun d os=>cell_regrown q2 d os
   clear q0 q1 q2
   refine Ge HMIX.out (by kernel_rfl) ?_
   repeat (first
    | (refine Dd (by rfl) (by rfl) ?_;simp only[nmA])
    | (refine DZ (v:=?_) (by rfl) (by rfl) (fun d os=>?_) ?_;rotate_left;(focus (go_simp;(try with_reducible rfl);done));simp only[nmA]))
   refine Oq (fun b=>.slice (some ⟨b,0,none⟩) 3 3) (.cells #[.int .i64 ((28:Nat):Int),.int .i64 ((34:Nat):Int),.int .i64 ((39:Nat):Int)] 3 (0,0)) (by rfl) (by rfl) (fun d os=>?_) ?_;(focus (go_simp;done));simp only[List.nil_append,List.cons_append]
   repeat (first
    | (refine Dd (by rfl) (by rfl) ?_;simp only[nmA])
    | (refine DZ (v:=?_) (by rfl) (by rfl) (fun d os=>?_) ?_;rotate_left;(focus (go_simp;(try with_reducible rfl);done));simp only[nmA]))
   refine Ij (v:=_) (f:=181) (args:=fun b=>#[.int .u64 (v0:Int),.slice (some ⟨b,0,none⟩) 3 3]) (by rfl) (by rfl) (fun b=>by rfl) (fun b d os=>by (simp only[nmA];go_simp;done)) KT0.out ?_;simp only[nmA]
   repeat (first
    | (refine Dd (by rfl) (by rfl) ?_;simp only[nmA])
    | (refine DZ (v:=?_) (by rfl) (by rfl) (fun d os=>?_) ?_;rotate_left;(focus (go_simp;(try with_reducible rfl);done));simp only[nmA]))
   refine QO (args:=?_) (v:=?_) (f:=183) (by rfl) (by rfl) (fun d os=>?_) (fun d os=>?_) ?_;rotate_left 3;(focus (with_reducible exact KM.out _;done));rotate_left;(focus (go_simp;done));simp only[nmA]
   repeat (first
    | (refine Dd (by rfl) (by rfl) ?_;simp only[nmA])
    | (refine DZ (v:=?_) (by rfl) (by rfl) (fun d os=>?_) ?_;rotate_left;(focus (go_simp;(try with_reducible rfl);done));simp only[nmA]))
   refine Oq (fun b=>.slice (some ⟨b,0,none⟩) 2 2) (.cells #[.int .u64 (g0:Int),.int .u64 (mj:Int)] 22 (0,0)) (by rfl) (by rfl) (fun d os=>?_) ?_;(focus (go_simp;done));simp only[List.nil_append,List.cons_append]
   repeat (first
    | (refine Dd (by rfl) (by rfl) ?_;simp only[nmA])
    | (refine DZ (v:=?_) (by rfl) (by rfl) (fun d os=>?_) ?_;rotate_left;(focus (go_simp;(try with_reducible rfl);done));simp only[nmA]))
   refine Ij (v:=_) (f:=180) (args:=fun b=>#[.slice (some ⟨b,0,none⟩) 2 2]) (by rfl) (by rfl) (fun b=>by rfl) (fun b d os=>by (simp only[nmA];go_simp;done)) KS2.out ?_;simp only[nmA]
   repeat (first
    | (refine Dd (by rfl) (by rfl) ?_;simp only[nmA])
    | (refine DZ (v:=?_) (by rfl) (by rfl) (fun d os=>?_) ?_;rotate_left;(focus (go_simp;(try with_reducible rfl);done));simp only[nmA]))
   refine Q8 (t:=46) (t':=55) (by rfl) (by rfl) (fun n3 n4 d os=>?_)
   have BW:=below_regrown W d os
   have e5:=DM E5.out BW
   have e4:=DM E4.out BW
   have eh:=DM EH.out BW
   have eg:=ET EG.out (DU BW none) (fun x hx=>by cases hx)
   have q0:=cell_regrown QE.out.1 d os
   have q1:=cell_regrown QE.out.2.1 d os
   have q2:=cell_regrown QE.out.2.2.1 d os
   have q3:=cell_regrown QE.out.2.2.2.1 d os
   have q4:=cell_regrown QE.out.2.2.2.2.1 d os
   have q5:=cell_regrown QE.out.2.2.2.2.2.1 d os
   have q6:=cell_regrown QE.out.2.2.2.2.2.2 d os
   generalize Sort.grow (redrawn W d) os=V at *
   simp only[nmA]
   have n4':=HNE.out.2.1
   have nh':=HNE.out.2.2
   have V5:=Lh (setRow_heap V b5 _ (Cw (rnds hs ks Ws (k+1))).toArray _ _ e5)
   have V4:=Lh ((setRow_other V b5 b4 (Cw (rnds hs ks Ws (k+1))).toArray n4').trans e4)
   have VH:=Lh ((setRow_other V b5 h (Cw (rnds hs ks Ws (k+1))).toArray nh').trans eh)
   have VG:=Lh (ET eg (GZ V b5 (Cw (rnds hs ks Ws (k+1))).toArray) (fun x hx=>by cases hx;exact HNE.out.1))
   have F5:=Lh e5
   clear BW E5 E4 EH EG e5 e4 eh eg QE d0 d1 d2 n4' nh'
   rw[HR.out] at V5 V4 VH VG
   repeat (first
    | (refine wp_store_row 160 (.tmp 5) (.tmp 76) rfl b5 (Cw [Z,v0,v1,v2,U,v4,v5,v6]).toArray (by simp[Act.eval];done) (by simp[Act.eval,Cw];done) 160 _ F5.out (by show _=some 8;kernel_rfl) (by rw[HZ5.out];rfl) (Yw _) ?_
       generalize V.setRow b5 _=V' at *)
    | go_step)
   have hk1:=HT.out
   exact⟨⟨k+1,by omega,rfl,by rw[HR.out];exact V5.out,V4.out,VH.out,VG.out⟩,by simp[intOf];omega⟩
  ·have hk64:k=80:=by omega
   subst hk64
   obtain⟨a0,a1,a2,a3,a4,a5,a6,a7,hV⟩:∃ a0 a1 a2 a3 a4 a5 a6 a7:Nat,rnds hs ks Ws 80=[a0,a1,a2,a3,a4,a5,a6,a7]:=by
    generalize rnds hs ks Ws 80=l at hAl
    match l,hAl with
    | [a,b,c,d,e,f,g,i],_=>exact⟨a,b,c,d,e,f,g,i,rfl⟩
   rw[hV] at r5
   have p1:¬ ((80:Nat):Int)<80:=by omega
   have q0:=(Af r5 (i:=0) (v:=.int .u64 (a0:Int)) rfl).1
   have q1:=(Af r5 (i:=1) (v:=.int .u64 (a1:Int)) rfl).1
   have q2:=(Af r5 (i:=2) (v:=.int .u64 (a2:Int)) rfl).1
   have q3:=(Af r5 (i:=3) (v:=.int .u64 (a3:Int)) rfl).1
   have q4:=(Af r5 (i:=4) (v:=.int .u64 (a4:Int)) rfl).1
   have q5:=(Af r5 (i:=5) (v:=.int .u64 (a5:Int)) rfl).1
   have q6:=(Af r5 (i:=6) (v:=.int .u64 (a6:Int)) rfl).1
   have q7:=(Af r5 (i:=7) (v:=.int .u64 (a7:Int)) rfl).1
   have HV:=Lh hV
   have RH:=Lh rh
   have RG:=Lh rg
   clear r5 r4 rh rg hAl hAlt hV hk hlt
   go_wp2_with fail
   clear q0 q1 q2 q3 q4 q5 q6 q7
   have HI:∀ i:Nat,i<8→∀ w:World,(Instr.index 160 (.agg #[.int .u64 (a0:Int),.int .u64 (a1:Int),.int .u64 (a2:Int),.int .u64 (a3:Int),.int .u64 (a4:Int),.int .u64 (a5:Int),.int .u64 (a6:Int),.int .u64 (a7:Int)]) (.int .i64 (i:Int))).run Tryz.prog w=.ok (.int .u64 (([a0,a1,a2,a3,a4,a5,a6,a7].getD i 0:Nat):Int)) w:=fun i hi w=>by
    match i,hi with
    | 0,_=>rfl
    | 1,_=>rfl
    | 2,_=>rfl
    | 3,_=>rfl
    | 4,_=>rfl
    | 5,_=>rfl
    | 6,_=>rfl
    | 7,_=>rfl
   have HI:=Lh HI
   obtain⟨Vl,hVl⟩:=exza ([a0,a1,a2,a3,a4,a5,a6,a7])
   rw[← hVl] at HV HI
   clear hVl
   go_loopw [79] (fun v W=>∃ i:Nat,i≤8∧v=.int .i64 (i:Int)∧W.heap[h]?=some (.cells (hrow g (Hi hs Vl i) ks).toArray 165 (0,0))∧w.grownBy W (some h)) (fun v _=>8-(intOf v).toNat)
   case atStart=>exact⟨0,by omega,rfl,by rw[WQ _ _ HS.out.1];exact RH.out,RG.out⟩
   case round =>
    clear RH RG
    obtain⟨i,hi,rfl,rh,rg⟩:=hrel
    by_cases hlt:i<8
    ·have p2:(i:Int)<8:=by omega
     have hx:=HI.out i hlt
     have cy:=(Af rh (Dp g (Hi hs Vl i) ks i (by rw[Mr];exact hlt))).1
     rw[QF _ _ _ hlt] at cy
     have hcv:=Dp g (Hi hs Vl i) ks i (by rw[Mr];exact hlt)
     rw[QF _ _ _ hlt] at hcv
     have hst:(hrow g (Hi hs Vl i) ks).set (1+i) (.int .u64 (((hs.getD i 0+Vl.getD i 0)%M64:Nat):Int))=hrow g (Hi hs Vl (i+1)) ks:=by
      rw[Qg _ _ _ _ _ (by rw[Mr];exact hlt),ZB _ _ _ hlt]
     have wY:IntKind.u64.wrap ((hs.getD i 0:Int)+(Vl.getD i 0:Int))=(((hs.getD i 0+Vl.getD i 0)%M64:Nat):Int):=by rw[← Fj,Int.natCast_add]
     generalize hs.getD i 0=y at *
     generalize Vl.getD i 0=x at *
     generalize (y+x)%M64=z at *
     have wi:IntKind.i64.wrap ((i:Int)+1)=(i:Int)+1:=by rw[IntKind.wrap_i64];omega
     have HST:=Lh hst
     have HLT:=Lh hlt
     have RH:=Lh rh
     have RG:=Lh rg
     have CY:=Lh cy
     have HCV:=Lh hcv
     clear hst hlt rh rg cy HI hcv
     go_wp2_with fail
     clear hx
     have dy:=fun d os=>cell_regrown CY.out d os
     refine Ak 11 HMIX.out (by decide) (by kernel_rfl) (by kernel_rfl) ?_
     repeat (first
      | (refine AZ (by rfl) (by rfl) ?_;simp only[nmA])
      | (refine Bp (v:=?_) (by rfl) (by rfl) (fun d os=>?_) ?_;rotate_left;(focus (go_simp;(try with_reducible rfl);done));simp only[nmA]))
     refine Px (fun d os=>?_)
     have BW:=below_regrown wr d os
     have eh:=DM RH.out BW
     have eg:=ET RG.out (DU BW none) (fun x hx=>by cases hx)
     have cy:=dy d os
     generalize Sort.grow (redrawn wr d) os=W at eh eg cy ⊢
     obtain⟨s1,s2⟩:=Af eh HCV.out
     have VH:=Lh (AF eh (.int .u64 (z:Int)) (i:=1+i))
     have VG:=Lh (LB eg (CU W h (1+i) (.int .u64 (z:Int))))
     clear BW RH RG eh eg dy cy CY
     change wpAny _ _ _ _ 1 _ _ _
     refine Ej (i:=11) (by kernel_rfl) rfl (fun K hK=>?_)
     go_simp
     refine hK _ _ ?_
     clear hK K s1 s2
     refine wpAny_done (by kernel_rfl) ?_ _
     go_wp2_with fail
     have h1:=HLT.out
     have vh:=VH.out
     rw[HST.out] at vh
     exact⟨⟨i+1,by omega,rfl,vh,VG.out⟩,by simp[intOf];omega⟩
    ·have hi8:i=8:=by omega
     subst hi8
     have p2:¬ ((8:Nat):Int)<8:=by omega
     have RH:=Lh rh
     have RG:=Lh rg
     clear rh rg hi hlt HI
     go_wp2_with fail
     first
      | refine bodyPost_end (results_none Tryz.results141 _ _ _) rfl ?_
      | refine bodyPost_ret (results_none Tryz.results141 _ _ _) rfl ?_
     have rh:=RH.out
     rw[YI] at rh
     rw[HV.out]
     exact⟨rfl,rh,RG.out⟩
end Go.Proofs.YtnaldciakclccaaGreat
