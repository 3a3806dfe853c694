/- Lemmas of this proof. -/
import Derived.Test.YtnaldciakclccaaGreatEv26
namespace Go.Proofs.YtnaldciakclccaaGreat
set_option maxRecDepth 20000
set_option maxHeartbeats 8000000
set_option linter.unusedSimpArgs false
set_option linter.unusedVariables false
open Go.RowKit Go.Sort
theorem J1 {P:Program} {fn:Func} {A:Array Value} {w:World} {c t s1 s2:Nat} {b:Nat} {v v1 v2:Value} (hr:fn.results=#[.cell c t,.tmp s1,.tmp s2]) (h0:A.getD c undef=.pointer (some ⟨b,0,none⟩)) (h1:A.getD s1 undef=v1) (h2:A.getD s2 undef=v2) (hl:(loadVar t ⟨b,0,none⟩).run P w=.ok v w):(results fn A).run P w=.ok (.tuple #[v,v1,v2]) w:=by
 rw[Array.getD_eq_getD_getElem?] at h0 h1 h2
 simp only[results,hr]
 simp[asAddr,h0,hl,h1,h2]
theorem Ia {P:Program} {fn:Func} {A:Array Value} {w:World} {s1 s2:Nat} {v1 v2:Value} (hr:fn.results=#[.tmp s1,.tmp s2]) (h1:A.getD s1 undef=v1) (h2:A.getD s2 undef=v2):(results fn A).run P w=.ok (.tuple #[v1,v2]) w:=by
 subst h1 h2
 unfold results
 simp[hr]
def OD (n:Nat) (f p:ByteArray):Array Value:=#[.int .u64 (wd n 0:Int),.int .u64 (wd n 1:Int),.int .u64 (wd n 2:Int),.int .u64 (wd n 3:Int),.string f,.string p]
def FW (n:Nat) (f p:ByteArray):Value:=.agg (OD n f p)
def LE:Array Value:=#[.int .u64 0,.int .u64 0,.int .u64 0,.int .u64 0,.string ⟨#[]⟩,.string ⟨#[]⟩]
theorem JD (n:Nat) (f p:ByteArray):(OD n f p).all (·.oneCell')=true:=by kernel_rfl
theorem G7:De Tryz.prog 26 6:=⟨.inl ⟨_,Tryz.underlying26⟩,by kernel_rfl⟩
theorem LJ (W:World):(Instr.alloc 26 true (.tuple #[])).run Tryz.prog W=.ok (.pointer (some ⟨W.heap.size,0,none⟩)) (W.alloc (.cells LE 26 (0,0))):=by
 kernel_rfl
theorem fj (n:Nat) (f p:ByteArray) (W:World):(Instr.build 26 #[(0,Aa n),(1,.string f),(2,.string p)]).run Tryz.prog W=.ok (FW n f p) W:=by
 kernel_rfl
theorem dz (W:World):(Instr.build 26 #[]).run Tryz.prog W=.ok (.agg LE) W:=by
 kernel_rfl
theorem Oi:Di Tryz.prog 9:=⟨⟨_,Tryz.underlying9,rfl⟩,by kernel_rfl⟩
theorem dJ (b:Nat) (W:World):(Instr.fieldAt 26 (.pointer (some ⟨b,0,none⟩)) 0).run Tryz.prog W=.ok (.pointer (some ⟨b,0,none⟩)) W:=by
 go_simp
theorem dL (b:Nat) (W:World):(Instr.fieldAt 26 (.pointer (some ⟨b,0,none⟩)) 1).run Tryz.prog W=.ok (.pointer (some ⟨b,4,none⟩)) W:=by
 go_simp
theorem TM (b:Nat) (W:World):(Instr.fieldAt 26 (.pointer (some ⟨b,0,none⟩)) 2).run Tryz.prog W=.ok (.pointer (some ⟨b,5,none⟩)) W:=by
 go_simp
theorem YU (s:ByteArray) (W:World):(Instr.buildSlice 74 1 #[(0,.string s)]).run Tryz.prog W=.ok (.slice (some ⟨W.heap.size,0,none⟩) 1 1) (W.alloc (.cells #[.string s] 9 (0,0))):=by
 go_simp
theorem Rk (n:Nat) (f p:ByteArray) (h:wd n 3≠0) (x y:Operand) (W:World):(do eqGuard .eql 26 x y (FW n f p) (.agg LE);binOp .eql 26 (FW n f p) (.agg LE):Sem Value).run Tryz.prog W=.ok (.bool false) W:=by
 have e:((wd n 3:Int) == 0)=false:=by
  rw[beq_eq_false_iff_ne]
  omega
 obtain⟨m,hm⟩:=exzb (wd n 3)
 obtain⟨m0,hm0⟩:=exzb (wd n 0)
 obtain⟨m1,hm1⟩:=exzb (wd n 1)
 obtain⟨m2,hm2⟩:=exzb (wd n 2)
 unfold FW OD LE
 rw[hm] at e
 rw[hm,hm0,hm1,hm2]
 clear hm hm0 hm1 hm2 h
 have hq:∀ w,(Op.equalIn 9999 24 (.agg #[.int .u64 (m0:Int),.int .u64 (m1:Int),.int .u64 (m2:Int),.int .u64 (m:Int)]) (.agg #[.int .u64 0,.int .u64 0,.int .u64 0,.int .u64 0])).run Tryz.prog w=.ok false w:=fun w=>by
  have h:=MN 9997 w m0 m1 m2 m 0 0 0 0
  rw[e,Bool.and_false,Bool.and_false,Bool.and_false] at h
  exact h
 go_simp
theorem fP (s:ByteArray) (x y:Operand) (W:World):(do eqGuard .eql 9 x y (.string s) (.string s);binOp .eql 9 (.string s) (.string s):Sem Value).run Tryz.prog W=.ok (.bool true) W:=by
 go_simp
theorem Tt (n:Nat) (c:Bool) (hc:(n != 32)=c) (x y:Operand) (W:World):(do eqGuard .neq 3 x y (.int .i64 (n:Int)) (.int .i64 32);binOp .neq 3 (.int .i64 (n:Int)) (.int .i64 32):Sem Value).run Tryz.prog W=.ok (.bool c) W:=by
 have e:((n:Int) != 32)=c:=by
  rw[← hc,bne,bne]
  congr 1
  rw[Bool.eq_iff_iff]
  simp
  omega
 clear hc
 go_simp
theorem Ol (a q:Nat) (hq:a/8=q) (h:a<18446744073709551616) (x y:Operand) (W:World):(do eqGuard .quo 22 x y (.int .u64 (a:Int)) (.int .u64 8);binOp .quo 22 (.int .u64 (a:Int)) (.int .u64 8):Sem Value).run Tryz.prog W=.ok (.int .u64 (q:Int)) W:=by
 have e:((a:Int).tdiv 8)=(q:Int):=by rw[Int.tdiv_eq_ediv_of_nonneg (by omega)];omega
 have e2:IntKind.u64.wrap (q:Int)=(q:Int):=IntWalk.u64_in _ (by omega)
 have e3:(a:Int)/8=(q:Int):=by omega
 clear hq
 go_simp
theorem OT (q m:Nat) (hm:q*8=m) (h:m<18446744073709551616) (x y:Operand) (W:World):(do eqGuard .mul 22 x y (.int .u64 (q:Int)) (.int .u64 8);binOp .mul 22 (.int .u64 (q:Int)) (.int .u64 8):Sem Value).run Tryz.prog W=.ok (.int .u64 (m:Int)) W:=by
 have e2:IntKind.u64.wrap ((q:Int)*8)=(m:Int):=by rw[IntWalk.u64_in _ (by omega)];omega
 clear hm
 go_simp
theorem M6 (a q:Nat) (hq:a%4611686018427387904=q) (x y:Operand) (W:World):(do eqGuard .rem 22 x y (.int .u64 (a:Int)) (.int .u64 4611686018427387904);binOp .rem 22 (.int .u64 (a:Int)) (.int .u64 4611686018427387904):Sem Value).run Tryz.prog W=.ok (.int .u64 (q:Int)) W:=by
 have e:((a:Int).tmod 4611686018427387904)=(q:Int):=by rw[Int.tmod_eq_emod_of_nonneg (by omega)];omega
 have e2:IntKind.u64.wrap (q:Int)=(q:Int):=IntWalk.u64_in _ (by omega)
 have e3:(a:Int)%4611686018427387904=(q:Int):=by omega
 clear hq
 go_simp
theorem M5 (q m:Nat) (hm:q+4611686018427387904=m) (h:m<18446744073709551616) (x y:Operand) (W:World):(do eqGuard .add 22 x y (.int .u64 (q:Int)) (.int .u64 4611686018427387904);binOp .add 22 (.int .u64 (q:Int)) (.int .u64 4611686018427387904):Sem Value).run Tryz.prog W=.ok (.int .u64 (m:Int)) W:=by
 have e2:IntKind.u64.wrap ((q:Int)+4611686018427387904)=(m:Int):=by rw[IntWalk.u64_in _ (by omega)];omega
 clear hm
 go_simp
theorem aR (s H F1 F2 PB:ByteArray) (n:Nat) (R:N4) (hs:s.size=32) (hH:H.size=64) (e1:H.extract 0 32=F1) (e2:H.extract 32 H.size=F2) (KH:Hid (∀ (g:Nat) (w:World),w.heap[g]?=some (.cells #[.string s] 9 (0,0))→Calls Tryz.prog 54 #[.slice (some ⟨g,0,none⟩) 1 1] w fun e w'=>e=.returned (.string H)∧Below w.heap.size w w')) (KN:Hid (∀ w,Calls Tryz.prog 55 #[.string F1] w fun e w'=>e=.returned (Aa n)∧Below w.heap.size w w')) (KB:Hid (∀ w,Calls Tryz.prog 41 #[Aa n] w fun e w'=>e=.returned (pv4 R)∧Below w.heap.size w w')) (KE:Hid (∀ w,Calls Tryz.prog 40 #[pv4 R] w fun e w'=>e=.returned (.string PB)∧Below w.heap.size w w')) (w:World):Calls Tryz.prog 18 #[.string s] w fun E w'=>E=.returned (FW n F2 PB)∧Below w.heap.size w w':=by
 have hodd:(s.size != 32)=false:=by rw[hs];rfl
 have HMIX:=Lh (show Tryz.prog.follows .mixedOrders=true by kernel_rfl)
 go_enter Tryz.func18,Tryz.ntmps18
 have hM0:=Mem.start w
 (go_step;go_step;refine wp_region_lit ?_)
 refine At hM0 (ob:=.cells LE 26 (0,0)) (fun W=>Ab rfl (LJ W)) rfl fun b1 W1 hM1=>?_
 simp only[nmA]
 refine wpList_nil ?_
 ((iterate 4 go_step);refine wp_region_lit ?_)
 refine Ad (.string s) ?_
 simp only[nmA]
 refine Ac (v:=.int .i64 (s.size:Int)) (fun W=>A8 W rfl (by simp[Act.eval]) rfl Tryz.underlying9) rfl ?_
 simp only[nmA]
 refine Ac (v:=.bool false) (fun W=>Ag rfl rfl rfl (Tt s.size false hodd _ _ W)) rfl ?_
 simp only[nmA]
 refine wpList_nil ?_
 ((iterate 7 go_step);refine wp_region_lit ?_)
 refine Ad (.string s) ?_
 simp only[nmA]
 refine FN hM1 (f:=fun b=>.slice (some ⟨b,0,none⟩) 1 1) (ob:=.cells (#[.string s]) 9 (0,0)) (fun W=>Ax rfl (by simp[Act.eval]) (YU s W)) rfl fun b2 W2 hM2=>?_
 simp only[nmA]
 refine Ah hM2 (args:=#[.slice (some ⟨b2,0,none⟩) 1 1]) (v:=.string H) (rcf (enters_of Tryz.func54 rfl rfl)) (KH.out b2 W2 (hM2.get 0 rfl)) rfl fun W3 hM3=>?_
 simp only[nmA]
 refine Ad (.string H) ?_
 simp only[nmA]
 refine wpList_nil ?_
 ((iterate 3 go_step);refine wp_region_lit ?_)
 refine Ad (.string H) ?_
 simp only[nmA]
 refine Ac (v:=.string F1) (fun W=>e1 ▸ BG W rfl (by simp[Act.eval]) (En (j:=32) W Tryz.underlying9 (by rw[hH];decide))) rfl ?_
 simp only[nmA]
 refine Ah hM3 (args:=#[.string F1]) (v:=Aa n) (rcf (enters_of Tryz.func55 rfl rfl)) (KN.out W3) rfl fun W4 hM4=>?_
 simp only[nmA]
 refine At hM4 (ob:=.cells z4 24 (0,0)) (fun W=>Ab rfl (Gb W)) rfl fun b3 W5 hM5=>?_
 simp only[nmA]
 refine Av hM5 0 (cs:=(elR n)) rfl rfl rfl rfl Bx rfl (Ay n) rfl rfl fun W6 hM6=>?_
 simp only[nm2,nm3] at hM6
 refine wpList_nil ?_
 ((iterate 3 go_step);refine Ak 7 HMIX.out (by decide) (by kernel_rfl) (by kernel_rfl) ?_)
 refine Ao hM6 0 (v:=Aa n) rfl rfl rfl rfl Bx rfl rfl ?_;simp only[nmA]
 refine AM (.string H) ?_;simp only[nmA]
 refine As (v:=.string F2) (fun W=>e2 ▸ BG W rfl (by simp[Act.eval]) (GQ (i:=32) W Tryz.underlying9 (by rw[hH];decide))) rfl rfl ?_;simp only[nmA]
 refine Ao hM6 0 (v:=Aa n) rfl rfl rfl rfl Bx rfl rfl ?_;simp only[nmA]
 refine Am (args:=#[Aa n]) (v:=pv4 R) (rcf (enters_of Tryz.func41 rfl rfl)) (fun W _=>KB.out W) rfl rfl ?_;simp only[nmA]
 refine Am (args:=#[pv4 R]) (v:=.string PB) (rcf (enters_of Tryz.func40 rfl rfl)) (fun W _=>KE.out W) rfl rfl ?_;simp only[nmA]
 refine As (v:=FW n F2 PB) (fun W=>Bq rfl (by simp[Act.eval]) (fj n F2 PB W)) rfl rfl ?_;simp only[nmA]
 refine AO fun d os=>?_
 refine Az fun hap=>?_
 have hM7:=hM6.calls (below_regrown W6 d os)
 clear hap 
 generalize grow (redrawn W6 d) os=W7 at hM7 ⊢
 change wpAny _ _ _ _ 1 _ _ _
 refine A7 (n:=7) (by kernel_rfl) rfl hM7 2 (cs:=((OD n F2 PB))) rfl rfl rfl rfl G7 rfl (JD _ _ _) rfl rfl fun W8 hM8=>?_
 simp only[nm2,nm3] at hM8
 refine wpAny_done (by kernel_rfl) ?_ _
 ((iterate 3 go_step);refine bodyPost_ret (v:=FW n F2 PB) (Ap Tryz.results18 rfl (hM8.load 2 rfl G7)) rfl ⟨?_,hM8.below⟩)
 exact rfl
theorem fY (s F2 PB:ByteArray) (n:Nat) (h3:wd n 3≠0) (KK:Hid (∀ w,Calls Tryz.prog 18 #[.string s] w fun e w'=>e=.returned (FW n F2 PB)∧Below w.heap.size w w')) (w:World):Calls Tryz.prog 6 #[.string s] w fun E w'=>E=.returned (.tuple #[FW n F2 PB,.int .i64 0])∧Below w.heap.size w w':=by
 have HMIX:=Lh (show Tryz.prog.follows .mixedOrders=true by kernel_rfl)
 go_enter Tryz.func6,Tryz.ntmps6
 have hM0:=Mem.start w
 (go_step;go_step;refine wp_region_lit ?_)
 refine At hM0 (ob:=.cells LE 26 (0,0)) (fun W=>Ab rfl (LJ W)) rfl fun b1 W1 hM1=>?_
 simp only[nmA]
 refine Ad (.int .i64 0) ?_
 simp only[nmA]
 refine wpList_nil ?_
 ((iterate 3 go_step);refine wp_region_lit ?_)
 refine Ad (.string s) ?_
 simp only[nmA]
 refine Ah hM1 (args:=#[.string s]) (v:=FW n F2 PB) (rcf (enters_of Tryz.func18 rfl rfl)) (KK.out W1) rfl fun W2 hM2=>?_
 simp only[nmA]
 refine At hM2 (ob:=.cells LE 26 (0,0)) (fun W=>Ab rfl (LJ W)) rfl fun b2 W3 hM3=>?_
 simp only[nmA]
 refine Av hM3 0 (cs:=((OD n F2 PB))) rfl rfl rfl rfl G7 rfl (JD _ _ _) rfl rfl fun W4 hM4=>?_
 simp only[nm2,nm3] at hM4
 refine wpList_nil ?_
 ((iterate 4 go_step);refine wp_region_lit ?_)
 refine AD hM4 0 (v:=FW n F2 PB) rfl rfl rfl rfl G7 rfl ?_
 simp only[nmA]
 refine Ac (v:=.agg LE) (fun W=>Bq rfl (by simp[Act.eval]) (dz W)) rfl ?_
 simp only[nmA]
 refine Ac (v:=.bool false) (fun W=>Ag rfl rfl rfl (Rk n F2 PB h3 _ _ W)) rfl ?_
 simp only[nmA]
 refine wpList_nil ?_
 ((iterate 7 go_step);refine wp_region_lit ?_)
 refine AD hM4 0 (v:=FW n F2 PB) rfl rfl rfl rfl G7 rfl ?_
 simp only[nmA]
 refine Av hM4 1 (cs:=((OD n F2 PB))) rfl rfl rfl rfl G7 rfl (JD _ _ _) rfl rfl fun W5 hM5=>?_
 simp only[nm2,nm3] at hM5
 refine Ad (.int .i64 0) ?_
 simp only[nmA]
 refine wpList_nil ?_
 ((iterate 3 go_step);refine bodyPost_ret (v:=.tuple #[FW n F2 PB,.int .i64 0]) (AC Tryz.results6 rfl rfl (hM5.load 1 rfl G7)) rfl ⟨?_,hM5.below⟩)
 exact rfl
theorem dB (s F2 PB:ByteArray) (n:Nat) (KK:Hid (∀ w,Calls Tryz.prog 6 #[.string s] w fun e w'=>e=.returned (.tuple #[FW n F2 PB,.int .i64 0])∧Below w.heap.size w w')) (w:World):Calls Tryz.prog 7 #[.string s] w fun E w'=>E=.returned (.tuple #[.string PB,.int .i64 0])∧Below w.heap.size w w':=by
 have HMIX:=Lh (show Tryz.prog.follows .mixedOrders=true by kernel_rfl)
 go_enter Tryz.func7,Tryz.ntmps7
 have hM0:=Mem.start w
 (go_step;go_step;refine wp_region_lit ?_)
 refine Ad (.string (⟨#[]⟩)) ?_
 simp only[nmA]
 refine Ad (.int .i64 0) ?_
 simp only[nmA]
 refine wpList_nil ?_
 ((iterate 3 go_step);refine wp_region_lit ?_)
 refine Ad (.string s) ?_
 simp only[nmA]
 refine Ah hM0 (args:=#[.string s]) (v:=.tuple #[FW n F2 PB,.int .i64 0]) (rcf (enters_of Tryz.func6 rfl rfl)) (KK.out w) rfl fun W1 hM1=>?_
 simp only[nmA]
 refine Ad (.tuple #[FW n F2 PB,.int .i64 0]) ?_
 simp only[nmA]
 refine Ad (FW n F2 PB) ?_
 simp only[nmA]
 refine Ad (.int .i64 0) ?_
 simp only[nmA]
 refine At hM1 (ob:=.cells LE 26 (0,0)) (fun W=>Ab rfl (LJ W)) rfl fun b1 W2 hM2=>?_
 simp only[nmA]
 refine Av hM2 0 (cs:=((OD n F2 PB))) rfl rfl rfl rfl G7 rfl (JD _ _ _) rfl rfl fun W3 hM3=>?_
 simp only[nm2,nm3] at hM3
 refine Ad (.int .i64 0) ?_
 simp only[nmA]
 refine wpList_nil ?_
 ((iterate 3 go_step);refine wp_region_lit ?_)
 refine Ac (v:=.pointer (some ⟨b1,5,none⟩)) (fun W=>AJ rfl rfl (TM b1 W)) rfl ?_
 simp only[nmA]
 refine Bc hM3 0 (v:=.string PB) rfl rfl rfl rfl Oi rfl ?_
 simp only[nmA]
 refine Ad (.int .i64 0) ?_
 simp only[nmA]
 refine Ad (.string PB) ?_
 simp only[nmA]
 refine Ad (.int .i64 0) ?_
 simp only[nmA]
 refine wpList_nil ?_
 ((iterate 3 go_step);refine bodyPost_ret (v:=.tuple #[.string PB,.int .i64 0]) (Ia Tryz.results7 rfl rfl) rfl ⟨rfl,hM3.below⟩)
theorem dx (s H F1 F2 PB:ByteArray) (N n:Nat) (Q:N3) (hH:H.size=64) (e1:H.extract 0 32=F1) (e2:H.extract 32 H.size=F2) (hn:n=clN N) (KH:Hid (∀ w,Calls Tryz.prog 21 #[.string s] w fun e w'=>e=.returned (.string H)∧Below w.heap.size w w')) (KN:Hid (∀ w,Calls Tryz.prog 22 #[.string F1] w fun e w'=>e=.returned (Aa N)∧Below w.heap.size w w')) (KT:Hid (∀ w,Calls Tryz.prog 24 #[Aa n,pv3 (bX,bY,1)] w fun e w'=>e=.returned (pv3 Q)∧Below w.heap.size w w')) (KE:Hid (∀ w,Calls Tryz.prog 23 #[pv3 Q] w fun e w'=>e=.returned (.string PB)∧Below w.heap.size w w')) (w:World):Calls Tryz.prog 9 #[.string s] w fun E w'=>E=.returned (.tuple #[Aa n,.string F2,.string PB])∧Below w.heap.size w w':=by
 obtain⟨q0,eq0⟩:=exzb (wd N 0/8)
 obtain⟨q1,eq1⟩:=exzb (q0*8)
 obtain⟨q2,eq2⟩:=exzb (wd N 3%4611686018427387904)
 obtain⟨q3,eq3⟩:=exzb (q2+4611686018427387904)
 have w0:=Cb N 0
 have hq1:q1<18446744073709551616:=by omega
 have hq3:q3<18446744073709551616:=by omega
 have eRow:(#[.int .u64 (q1:Int),.int .u64 (wd N 1:Int),.int .u64 (wd N 2:Int),.int .u64 (q3:Int)]:Array Value)=elR n:=by
  rw[hn,UM,← eq3,← eq2,← eq1,← eq0]
 clear w0 hn
 have HMIX:=Lh (show Tryz.prog.follows .mixedOrders=true by kernel_rfl)
 go_enter Tryz.func9,Tryz.ntmps9
 have hM0:=Mem.start w
 (go_step;go_step;refine wp_region_lit ?_)
 refine At hM0 (ob:=.cells z4 23 (0,0)) (fun W=>Ab rfl (Cr W)) rfl fun b1 W1 hM1=>?_
 simp only[nmA]
 refine Ad (.string (⟨#[]⟩)) ?_
 simp only[nmA]
 refine Ad (.string (⟨#[]⟩)) ?_
 simp only[nmA]
 refine wpList_nil ?_
 ((iterate 3 go_step);refine wp_region_lit ?_)
 refine Ad (.string s) ?_
 simp only[nmA]
 refine Ah hM1 (args:=#[.string s]) (v:=.string H) (rcf (enters_of Tryz.func21 rfl rfl)) (KH.out W1) rfl fun W2 hM2=>?_
 simp only[nmA]
 refine Ad (.string H) ?_
 simp only[nmA]
 refine wpList_nil ?_
 ((iterate 3 go_step);refine wp_region_lit ?_)
 refine Ad (.string H) ?_
 simp only[nmA]
 refine Ac (v:=.string F1) (fun W=>e1 ▸ BG W rfl (by simp[Act.eval]) (En (j:=32) W Tryz.underlying9 (by rw[hH];decide))) rfl ?_
 simp only[nmA]
 refine Ah hM2 (args:=#[.string F1]) (v:=Aa N) (rcf (enters_of Tryz.func22 rfl rfl)) (KN.out W2) rfl fun W3 hM3=>?_
 simp only[nmA]
 refine At hM3 (ob:=.cells z4 23 (0,0)) (fun W=>Ab rfl (Cr W)) rfl fun b2 W4 hM4=>?_
 simp only[nmA]
 refine Av hM4 0 (cs:=(elR N)) rfl rfl rfl rfl AG rfl (Ay N) rfl rfl fun W5 hM5=>?_
 simp only[nm2,nm3] at hM5
 refine wpList_nil ?_
 ((iterate 3 go_step);refine wp_region_lit ?_)
 refine Ac (v:=.pointer (some ⟨b2,0,none⟩)) (fun W=>Ar rfl rfl rfl (Pu b2 W)) rfl ?_
 simp only[nmA]
 refine Bc hM5 0 (v:=.int .u64 (wd N 0:Int)) rfl rfl rfl rfl BN rfl ?_
 simp only[nmA]
 refine Ac (v:=.int .u64 (q0:Int)) (fun W=>Ag rfl rfl rfl (Ol _ q0 eq0 (Cb _ _) _ _ W)) rfl ?_
 simp only[nmA]
 refine Ac (v:=.int .u64 (q1:Int)) (fun W=>Ag rfl rfl rfl (OT q0 q1 eq1 hq1 _ _ W)) rfl ?_
 simp only[nmA]
 refine Ac (v:=.pointer (some ⟨b2,0,none⟩)) (fun W=>Ar rfl rfl rfl (Pu b2 W)) rfl ?_
 simp only[nmA]
 refine Ba hM5 0 (cs':=#[.int .u64 (q1:Int),.int .u64 (wd N 1:Int),.int .u64 (wd N 2:Int),.int .u64 (wd N 3:Int)]) rfl rfl rfl rfl (by show 0<4;decide) (rfl) BN rfl rfl rfl fun W6 hM6=>?_
 simp only[nm2,nm3] at hM6
 refine wpList_nil ?_
 ((iterate 3 go_step);refine wp_region_lit ?_)
 refine Ac (v:=.pointer (some ⟨b2,3,none⟩)) (fun W=>Ar rfl rfl rfl (Du b2 W)) rfl ?_
 simp only[nmA]
 refine Bc hM6 0 (v:=.int .u64 (wd N 3:Int)) rfl rfl rfl rfl BN rfl ?_
 simp only[nmA]
 refine Ac (v:=.int .u64 (q2:Int)) (fun W=>Ag rfl rfl rfl (M6 _ q2 eq2 _ _ W)) rfl ?_
 simp only[nmA]
 refine Ac (v:=.int .u64 (q3:Int)) (fun W=>Ag rfl rfl rfl (M5 q2 q3 eq3 hq3 _ _ W)) rfl ?_
 simp only[nmA]
 refine Ac (v:=.pointer (some ⟨b2,3,none⟩)) (fun W=>Ar rfl rfl rfl (Du b2 W)) rfl ?_
 simp only[nmA]
 refine Ba hM6 0 (cs':=#[.int .u64 (q1:Int),.int .u64 (wd N 1:Int),.int .u64 (wd N 2:Int),.int .u64 (q3:Int)]) rfl rfl rfl rfl (by show 3<4;decide) (rfl) BN rfl rfl rfl fun W7 hM7=>?_
 simp only[nm2,nm3] at hM7
 refine wpList_nil ?_
 rw[eRow] at hM7
 have hMd:=hM7.drew
 ((iterate 3 go_step);refine wp_region_noPanic (wp_region_held_drew HMIX.out (S:=fun w1=>w1.heap[b2]?=some (.cells (elR n) 23 (0,0))) (hMd.get 0 rfl) fun hS=>?_))
 change wpAnyH _ _ _ _ _ 10 _ _ _
 generalize W7.drew=W8 at hMd hS ⊢
 have hM8:=hMd
 clear hMd
 refine Ka 0 22 #[true,false,false,false,false,false,false,false,false,false] (by kernel_rfl) (v:=Aa n) (cs:=(elR n)) (b:=b2) rfl rfl rfl rfl (fun W hW=>hW) rfl AG (by kernel_rfl) (by kernel_rfl) (by kernel_rfl) rfl hS ?_
 simp only[nmA]
 refine Dm 1 23 #[true,true,false,false,false,false,false,false,false,false] (by kernel_rfl) (v:=.string H) rfl rfl (by kernel_rfl) (by kernel_rfl) (by kernel_rfl) rfl (fun _ _=>rfl) hS ?_
 simp only[nmA]
 refine Dm 2 24 #[true,true,true,false,false,false,false,false,false,false] (by kernel_rfl) (v:=.string F2) rfl rfl (by kernel_rfl) (by kernel_rfl) (by kernel_rfl) rfl (fun W _=>e2 ▸ BG W rfl (by simp[Act.eval]) (GQ (i:=32) W Tryz.underlying9 (by rw[hH];decide))) hS ?_
 simp only[nmA]
 refine Ka 3 25 #[true,true,true,true,false,false,false,false,false,false] (by kernel_rfl) (v:=Aa n) (cs:=(elR n)) (b:=b2) rfl rfl rfl rfl (fun W hW=>hW) rfl AG (by kernel_rfl) (by kernel_rfl) (by kernel_rfl) rfl hS ?_
 simp only[nmA]
 refine OJ (n:=4) (args:=#[]) (v:=pv3 ((bX,bY,1))) #[true,true,true,true,true,false,false,false,false,false] (by kernel_rfl) (by kernel_rfl) rfl rfl rfl hM8 (rcf (enters_of Tryz.func25 rfl rfl)) (JO W8) (fun W hW=>hW.get 0 rfl) fun W9 hM9=>?_
 have hS:W9.heap[b2]?=some (.cells (elR n) 23 (0,0)):=hM9.get 0 rfl
 simp only[nmA]
 refine OJ (n:=5) (args:=#[Aa n,pv3 ((bX,bY,1))]) (v:=pv3 Q) #[true,true,true,true,true,true,false,false,false,false] (by kernel_rfl) (by kernel_rfl) rfl rfl rfl hM9 (rcf (enters_of Tryz.func24 rfl rfl)) (KT.out W9) (fun W hW=>hW.get 0 rfl) fun W10 hM10=>?_
 have hS:W10.heap[b2]?=some (.cells (elR n) 23 (0,0)):=hM10.get 0 rfl
 simp only[nmA]
 refine OJ (n:=6) (args:=#[pv3 Q]) (v:=.string PB) #[true,true,true,true,true,true,true,false,false,false] (by kernel_rfl) (by kernel_rfl) rfl rfl rfl hM10 (rcf (enters_of Tryz.func23 rfl rfl)) (KE.out W10) (fun W hW=>hW.get 0 rfl) fun W11 hM11=>?_
 have hS:W11.heap[b2]?=some (.cells (elR n) 23 (0,0)):=hM11.get 0 rfl
 simp only[nmA]
 refine GL (n:=7) #[true,true,true,true,true,true,true,true,false,false] (by kernel_rfl) (by kernel_rfl) rfl hM11 1 (cs:=(elR n)) rfl rfl rfl rfl AG rfl (Ay n) rfl rfl (fun W hW=>hW.get 0 rfl) fun W12 hM12=>?_
 simp only[nm2,nm3] at hM12
 have hS:W12.heap[b2]?=some (.cells (elR n) 23 (0,0)):=hM12.get 0 rfl
 refine Dm 8 3 #[true,true,true,true,true,true,true,true,true,false] (by kernel_rfl) (v:=.string F2) rfl rfl (by kernel_rfl) (by kernel_rfl) (by kernel_rfl) rfl (fun _ _=>rfl) hS ?_
 simp only[nmA]
 refine Dm 9 4 #[true,true,true,true,true,true,true,true,true,true] (by kernel_rfl) (v:=.string PB) rfl rfl (by kernel_rfl) (by kernel_rfl) (by kernel_rfl) rfl (fun _ _=>rfl) hS ?_
 simp only[nmA]
 refine wpAnyH_done (by kernel_rfl) ?_ _
 refine NoPanic.normal ?_
 ((iterate 3 go_step);refine bodyPost_ret (v:=.tuple #[Aa n,.string F2,.string PB]) (J1 Tryz.results9 rfl rfl rfl (hM12.load 1 rfl AG)) rfl ⟨rfl,hM12.below⟩)
theorem DR (S:ByteArray) (i j:Nat):(S.extract i j).data.toList=(S.data.toList.drop i).take (j-i):=by
 rw[ByteArray.data_extract,Array.toList_extract,List.extract_eq_take_drop]
theorem f6 (s:ByteArray) (hs:s.size=32):∃ (F2 PB:ByteArray) (n:Nat),n=clN (leN ((Jl s.data.toList).take 32))∧PB=⟨(byL (E7 (AB n BD).1.val (AB n BD).2.val)).toArray⟩∧F2.data.toList=(Jl s.data.toList).drop 32∧n<B64^4∧Hid (∀ w,Calls Tryz.prog 6 #[.string s] w fun E w'=>E=.returned (.tuple #[FW n F2 PB,.int .i64 0])∧Below w.heap.size w w')∧Hid (∀ w,Calls Tryz.prog 7 #[.string s] w fun E w'=>E=.returned (.tuple #[.string PB,.int .i64 0])∧Below w.heap.size w w')∧Hid (∀ w,Calls Tryz.prog 9 #[.string s] w fun E w'=>E=.returned (.tuple #[Aa n,.string F2,.string PB])∧Below w.heap.size w w'):=by
 have hl:s.data.toList.length=32:=by simpa using hs
 have hsh:=Rc s.data.toList hl
 have KH:=Lh (fun g w hg=>fo s hs g w hg)
 have KR:=Lh (fun w=>dZ s hs w)
 obtain⟨L,eL⟩:=exzb (Jl s.data.toList)
 rw[eL] at hsh KH KR ⊢
 obtain⟨H,eH⟩:∃ H:ByteArray,H=⟨L.toArray⟩:=⟨_,rfl⟩
 have hHL:H.data.toList=L:=by rw[eH]
 have hH:H.size=64:=by rw[eH];show L.toArray.size=64;rw[List.size_toArray];exact hsh
 rw[← eH] at KH KR
 obtain⟨F1,e1⟩:=exzb (H.extract 0 32)
 obtain⟨F2,e2⟩:=exzb (H.extract 32 H.size)
 have h1:F1.data.toList=L.take 32:=by rw[← e1,DR,hHL];rfl
 have h2:F2.data.toList=L.drop 32:=by
  rw[← e2,DR,hHL,hH]
  exact List.take_of_length_le (by rw[List.length_drop,hsh];decide)
 have h1s:F1.size=32:=by
  have:F1.data.toList.length=32:=by rw[h1,List.length_take,hsh];rfl
  simpa using this
 have KN:=Lh (fun w=>VI F1 h1s w)
 have KM:=Lh (fun w=>Em F1 h1s w)
 rw[h1] at KN KM
 obtain⟨N,eN⟩:=exzb (leN (L.take 32))
 rw[eN] at KN KM ⊢
 obtain⟨n,en⟩:=exza (clN N)
 have hn:n<B64^4:=by rw[en];exact gd N
 have h3:wd n 3≠0:=by rw[en,bg];omega
 rw[← en] at KN ⊢
 obtain⟨R,oR,KB⟩:=UC n hn
 obtain⟨Q,oQ,KT⟩:=Iy LU n hn
 have KE:=Lh (fun w=>FS oR w)
 have KE2:=Lh (fun w=>H8 oQ w)
 obtain⟨PB,eP⟩:∃ PB:ByteArray,PB=⟨(byL (E7 (AB n BD).1.val (AB n BD).2.val)).toArray⟩:=⟨_,rfl⟩
 rw[← eP] at KE KE2
 have KK:=Lh (fun w=>aR s H F1 F2 PB n R hs hH e1 e2 KH KN KB KE w)
 have KO:=Lh (fun w=>fY s F2 PB n h3 KK w)
 exact⟨F2,PB,n,rfl,eP,h2,hn,KO,Lh (fun w=>dB s F2 PB n KO w),Lh (fun w=>dx s H F1 F2 PB N n Q hH e1 e2 en KR KM KT KE2 w)⟩
end Go.Proofs.YtnaldciakclccaaGreat
