/- Lemmas of this proof. -/
import Derived.Test.YtnaldciakclccaaGreatEv26
import Derived.Test.YtnaldciakclccaaGreatEv15
import Derived.Test.YtnaldciakclccaaGreatEv29
namespace Go.Proofs.YtnaldciakclccaaGreat
set_option maxRecDepth 20000
set_option maxHeartbeats 8000000
set_option linter.unusedSimpArgs false
set_option linter.unusedVariables false
open Go.RowKit Go.Sort
theorem Fi (a:Nat) (h:a<18446744073709551616) (x y:Operand) (W:World):(do eqGuard .quo 22 x y (.int .u64 (a:Int)) (.int .u64 9223372036854775808);binOp .quo 22 (.int .u64 (a:Int)) (.int .u64 9223372036854775808):Sem Value).run Tryz.prog W=.ok (.int .u64 ((a/9223372036854775808:Nat):Int)) W:=by
 have e:((a:Int).tdiv 9223372036854775808)=((a/9223372036854775808:Nat):Int):=by rw[Int.tdiv_eq_ediv_of_nonneg (by omega)];omega
 have e2:IntKind.u64.wrap ((a/9223372036854775808:Nat):Int)=((a/9223372036854775808:Nat):Int):=IntWalk.u64_in _ (by omega)
 have e3:(a:Int)/9223372036854775808=((a/9223372036854775808:Nat):Int):=by omega
 obtain⟨m,hm⟩:=exzb (a/9223372036854775808)
 rw[hm] at e e2 e3 ⊢
 go_simp
theorem Fm (a:Nat) (x y:Operand) (W:World):(do eqGuard .rem 22 x y (.int .u64 (a:Int)) (.int .u64 9223372036854775808);binOp .rem 22 (.int .u64 (a:Int)) (.int .u64 9223372036854775808):Sem Value).run Tryz.prog W=.ok (.int .u64 ((a%9223372036854775808:Nat):Int)) W:=by
 have e:((a:Int).tmod 9223372036854775808)=((a%9223372036854775808:Nat):Int):=by rw[Int.tmod_eq_emod_of_nonneg (by omega)];omega
 have e2:IntKind.u64.wrap ((a%9223372036854775808:Nat):Int)=((a%9223372036854775808:Nat):Int):=IntWalk.u64_in _ (by omega)
 have e3:(a:Int)%9223372036854775808=((a%9223372036854775808:Nat):Int):=by omega
 obtain⟨m,hm⟩:=exzb (a%9223372036854775808)
 rw[hm] at e e2 e3 ⊢
 go_simp
theorem Fs (a b:Nat) (x y:Operand) (W:World) (ha:a<B64^4) (hb:b<B64^4):(do eqGuard .neq 23 x y (Aa a) (Aa b);binOp .neq 23 (Aa a) (Aa b):Sem Value).run Tryz.prog W=.ok (.bool (!decide (a=b))) W:=by
 have h:=fun w=>QS w a b ha hb
 unfold Aa at h ⊢
 go_simp
theorem FR (n:Nat) (x y:Operand) (W:World):(do eqGuard .neq 3 x y (.int .i64 (n:Int)) (.int .i64 32);binOp .neq 3 (.int .i64 (n:Int)) (.int .i64 32):Sem Value).run Tryz.prog W=.ok (.bool (!decide (n=32))) W:=by
 have e:((n:Int) == 32)=decide (n=32):=by
  rw[Bool.eq_iff_iff]
  simp
  omega
 go_simp
 rw[bne,e]
theorem bD (N:Nat):wd N 3/9223372036854775808=CF N 255:=by
 have h:=Yy N 255
 have h1:=Cb N 3
 rw[show (255/64:Nat)=3 from rfl,show (255%64:Nat)=63 from rfl,show (2^63:Nat)=9223372036854775808 by decide] at h
 rw[← h]
 omega
theorem Td (s:ByteArray) (hs:s.size=32) (N m bb:Nat) (hN:leN s.data.toList=N) (em:m=N%(9223372036854775808*B64^3)) (hmB:m<B64^4) (hbb:wd N 3/9223372036854775808=bb) (hm:¬ m<PN) (w:World):Calls Tryz.prog 50 #[.string s] w fun E w'=>E=.returned (.tuple #[pv3 ((0,1,1)),.int .i64 2])∧Below w.heap.size w w':=by
 have HMIX:=Lh (show Tryz.prog.follows .mixedOrders=true by kernel_rfl)
 have KN:=Lh (fun w=>Em s hs w)
 rw[hN] at KN
 clear hN
 have KMod:=Lh (fun w=>Hp m w hmB)
 obtain⟨mm,emm⟩:=exza (m%PN)
 rw[← emm] at KMod
 have hmmB:mm<B64^4:=by rw[emm];exact Bv (Nat.mod_lt _ Au)
 have hmm:¬ mm=m:=by intro e;rw[emm] at e;exact hm (by rw[← e];exact Nat.mod_lt _ Au)
 clear emm
 go_enter Tryz.func50,Tryz.ntmps50
 have hM0:=Mem.start w
 (go_step;go_step;refine wp_region_lit ?_)
 refine At hM0 (ob:=.cells z12 55 (0,0)) (fun W=>Ab rfl (FQ W)) rfl fun b1 W1 hM1=>?_
 simp only[nmA]
 refine Ad (.int .i64 0) ?_
 simp only[nmA]
 refine wpList_nil ?_
 ((iterate 4 go_step);refine wp_region_lit ?_)
 refine Ad (.string s) ?_
 simp only[nmA]
 refine Ac (v:=.int .i64 (s.size:Int)) (fun W=>A8 W rfl (by simp[Act.eval]) rfl Tryz.underlying9) rfl ?_
 simp only[nmA]
 refine Ac (v:=.bool false) (fun W=>Ag rfl rfl rfl (by rw[show false=!decide (s.size=32) from by rw[decide_eq_true hs];rfl];exact FR _ _ _ W)) rfl ?_
 simp only[nmA]
 refine wpList_nil ?_
 ((iterate 7 go_step);refine wp_region_lit ?_)
 refine Ad (.string s) ?_
 simp only[nmA]
 refine Ah hM1 (args:=#[.string s]) (v:=Aa N) (rcf (enters_of Tryz.func22 rfl rfl)) (KN.out W1) rfl fun W2 hM2=>?_
 simp only[nmA]
 refine At hM2 (ob:=.cells z4 23 (0,0)) (fun W=>Ab rfl (Cr W)) rfl fun b2 W3 hM3=>?_
 simp only[nmA]
 refine Av hM3 0 (cs:=(elR N)) rfl rfl rfl rfl AG rfl (Ay N) rfl rfl fun W4 hM4=>?_
 simp only[nm2,nm3] at hM4
 refine wpList_nil ?_
 ((iterate 3 go_step);refine wp_region_lit ?_)
 refine Ac (v:=.pointer (some ⟨b2,3,none⟩)) (fun W=>Ar rfl rfl rfl (Du b2 W)) rfl ?_
 simp only[nmA]
 refine Bc hM4 0 (v:=.int .u64 (wd N 3:Int)) rfl rfl rfl rfl BN rfl ?_
 simp only[nmA]
 refine Ac (v:=.int .u64 (bb:Int)) (fun W=>Ag rfl rfl rfl (by rw[← hbb];exact Fi _ (Cb _ _) _ _ W)) rfl ?_
 simp only[nmA]
 refine Ad (.int .u64 (bb:Int)) ?_
 simp only[nmA]
 refine wpList_nil ?_
 ((iterate 3 go_step);refine wp_region_lit ?_)
 refine Ac (v:=.pointer (some ⟨b2,3,none⟩)) (fun W=>Ar rfl rfl rfl (Du b2 W)) rfl ?_
 simp only[nmA]
 refine Bc hM4 0 (v:=.int .u64 (wd N 3:Int)) rfl rfl rfl rfl BN rfl ?_
 simp only[nmA]
 refine Ac (v:=.int .u64 (((wd N 3)%9223372036854775808:Nat):Int)) (fun W=>Ag rfl rfl rfl (Fm (wd N 3) _ _ W)) rfl ?_
 simp only[nmA]
 refine Ac (v:=.pointer (some ⟨b2,3,none⟩)) (fun W=>Ar rfl rfl rfl (Du b2 W)) rfl ?_
 simp only[nmA]
 refine Ba hM4 0 (cs':=(elR m)) rfl rfl rfl rfl (by show 3<4;decide) (by rw[em];exact Fb N) BN rfl rfl rfl fun W5 hM5=>?_
 simp only[nm2,nm3] at hM5
 refine wpList_nil ?_
 ((iterate 4 go_step);refine Ak 4 HMIX.out (by decide) (by kernel_rfl) (by kernel_rfl) ?_)
 refine Ao hM5 0 (v:=Aa m) rfl rfl rfl rfl AG rfl rfl ?_;simp only[nmA]
 refine Am (args:=#[Aa m]) (v:=Aa mm) (rcf (enters_of Tryz.func113 rfl rfl)) (fun W _=>KMod.out W) rfl rfl ?_;simp only[nmA]
 refine Ao hM5 0 (v:=Aa m) rfl rfl rfl rfl AG rfl rfl ?_;simp only[nmA]
 refine As (v:=.bool true) (fun W=>Ag rfl rfl rfl (by rw[show true=!decide (mm=m) from by rw[decide_eq_false hmm];rfl];exact Fs mm m _ _ W hmmB hmB)) rfl rfl ?_;simp only[nmA]
 refine AO fun d os=>?_
 refine Az fun hap=>?_
 have hM6:=hM5.calls (below_regrown W5 d os)
 clear hap 
 generalize grow (redrawn W5 d) os=W6 at hM6 ⊢
 refine wpAny_done (by kernel_rfl) ?_ _
 ((iterate 4 go_step);refine wp_region_lit ?_)
 refine Ah hM6 (args:=#[]) (v:=pv3 ((0,1,1))) (rcf (enters_of Tryz.func112 rfl rfl)) (IA W6) rfl fun W7 hM7=>?_
 simp only[nmA]
 refine Av hM7 1 (cs:=((rpL ((0,1,1)).1 ((0,1,1)).2.1 ((0,1,1)).2.2).toArray)) rfl rfl rfl rfl Cn rfl (DG _ _ _) rfl rfl fun W8 hM8=>?_
 simp only[nm2,nm3] at hM8
 refine Ad (.int .i64 2) ?_
 simp only[nmA]
 refine wpList_nil ?_
 ((iterate 4 go_step);refine bodyPost_ret (v:=.tuple #[pv3 ((0,1,1)),.int .i64 2]) (AC Tryz.results50 rfl rfl (hM8.load 1 rfl Cn)) rfl ⟨?_,hM8.below⟩)
 exact rfl
theorem aU (s:ByteArray) (hs:s.size=32) (N m bb x:Nat) (hN:leN s.data.toList=N) (em:m=N%(9223372036854775808*B64^3)) (hmB:m<B64^4) (hbb:wd N 3/9223372036854775808=bb) (hm:m<PN) (ex:x=Bu iV (sqR m)) (hok:okN iV (sqR m)=false) (w:World):Calls Tryz.prog 50 #[.string s] w fun E w'=>E=.returned (.tuple #[pv3 ((0,1,1)),.int .i64 22])∧Below w.heap.size w w':=by
 have HMIX:=Lh (show Tryz.prog.follows .mixedOrders=true by kernel_rfl)
 have KN:=Lh (fun w=>Em s hs w)
 rw[hN] at KN
 clear hN
 have KMod:=Lh (fun w=>Hp m w hmB)
 obtain⟨mm,emm⟩:=exza (m%PN)
 rw[← emm] at KMod
 have hmmB:mm<B64^4:=by rw[emm];exact Bv (Nat.mod_lt _ Au)
 have hmm:mm=m:=by rw[emm];exact Nat.mod_eq_of_lt hm
 clear emm
 have hx:x<PN:=by rw[ex];exact BI _
 obtain⟨sq,esq⟩:=exza (sqR m)
 have hsq:sq<PN:=by rw[esq];exact Kb _
 have KS:=Lh (fun w=>Ff m w hm)
 rw[← esq] at KS ex hok
 have KR:=Lh (fun w=>MO sq w hsq)
 rw[← ex,hok] at KR
 clear ex hok
 go_enter Tryz.func50,Tryz.ntmps50
 have hM0:=Mem.start w
 (go_step;go_step;refine wp_region_lit ?_)
 refine At hM0 (ob:=.cells z12 55 (0,0)) (fun W=>Ab rfl (FQ W)) rfl fun b1 W1 hM1=>?_
 simp only[nmA]
 refine Ad (.int .i64 0) ?_
 simp only[nmA]
 refine wpList_nil ?_
 ((iterate 4 go_step);refine wp_region_lit ?_)
 refine Ad (.string s) ?_
 simp only[nmA]
 refine Ac (v:=.int .i64 (s.size:Int)) (fun W=>A8 W rfl (by simp[Act.eval]) rfl Tryz.underlying9) rfl ?_
 simp only[nmA]
 refine Ac (v:=.bool false) (fun W=>Ag rfl rfl rfl (by rw[show false=!decide (s.size=32) from by rw[decide_eq_true hs];rfl];exact FR _ _ _ W)) rfl ?_
 simp only[nmA]
 refine wpList_nil ?_
 ((iterate 7 go_step);refine wp_region_lit ?_)
 refine Ad (.string s) ?_
 simp only[nmA]
 refine Ah hM1 (args:=#[.string s]) (v:=Aa N) (rcf (enters_of Tryz.func22 rfl rfl)) (KN.out W1) rfl fun W2 hM2=>?_
 simp only[nmA]
 refine At hM2 (ob:=.cells z4 23 (0,0)) (fun W=>Ab rfl (Cr W)) rfl fun b2 W3 hM3=>?_
 simp only[nmA]
 refine Av hM3 0 (cs:=(elR N)) rfl rfl rfl rfl AG rfl (Ay N) rfl rfl fun W4 hM4=>?_
 simp only[nm2,nm3] at hM4
 refine wpList_nil ?_
 ((iterate 3 go_step);refine wp_region_lit ?_)
 refine Ac (v:=.pointer (some ⟨b2,3,none⟩)) (fun W=>Ar rfl rfl rfl (Du b2 W)) rfl ?_
 simp only[nmA]
 refine Bc hM4 0 (v:=.int .u64 (wd N 3:Int)) rfl rfl rfl rfl BN rfl ?_
 simp only[nmA]
 refine Ac (v:=.int .u64 (bb:Int)) (fun W=>Ag rfl rfl rfl (by rw[← hbb];exact Fi _ (Cb _ _) _ _ W)) rfl ?_
 simp only[nmA]
 refine Ad (.int .u64 (bb:Int)) ?_
 simp only[nmA]
 refine wpList_nil ?_
 ((iterate 3 go_step);refine wp_region_lit ?_)
 refine Ac (v:=.pointer (some ⟨b2,3,none⟩)) (fun W=>Ar rfl rfl rfl (Du b2 W)) rfl ?_
 simp only[nmA]
 refine Bc hM4 0 (v:=.int .u64 (wd N 3:Int)) rfl rfl rfl rfl BN rfl ?_
 simp only[nmA]
 refine Ac (v:=.int .u64 (((wd N 3)%9223372036854775808:Nat):Int)) (fun W=>Ag rfl rfl rfl (Fm (wd N 3) _ _ W)) rfl ?_
 simp only[nmA]
 refine Ac (v:=.pointer (some ⟨b2,3,none⟩)) (fun W=>Ar rfl rfl rfl (Du b2 W)) rfl ?_
 simp only[nmA]
 refine Ba hM4 0 (cs':=(elR m)) rfl rfl rfl rfl (by show 3<4;decide) (by rw[em];exact Fb N) BN rfl rfl rfl fun W5 hM5=>?_
 simp only[nm2,nm3] at hM5
 refine wpList_nil ?_
 ((iterate 4 go_step);refine Ak 4 HMIX.out (by decide) (by kernel_rfl) (by kernel_rfl) ?_)
 refine Ao hM5 0 (v:=Aa m) rfl rfl rfl rfl AG rfl rfl ?_;simp only[nmA]
 refine Am (args:=#[Aa m]) (v:=Aa mm) (rcf (enters_of Tryz.func113 rfl rfl)) (fun W _=>KMod.out W) rfl rfl ?_;simp only[nmA]
 refine Ao hM5 0 (v:=Aa m) rfl rfl rfl rfl AG rfl rfl ?_;simp only[nmA]
 refine As (v:=.bool false) (fun W=>Ag rfl rfl rfl (by rw[show false=!decide (mm=m) from by rw[decide_eq_true hmm];rfl];exact Fs mm m _ _ W hmmB hmB)) rfl rfl ?_;simp only[nmA]
 refine AO fun d os=>?_
 refine Az fun hap=>?_
 have hM6:=hM5.calls (below_regrown W5 d os)
 clear hap 
 generalize grow (redrawn W5 d) os=W6 at hM6 ⊢
 refine wpAny_done (by kernel_rfl) ?_ _
 ((iterate 7 go_step);refine wp_region_lit ?_)
 refine AD hM6 0 (v:=Aa m) rfl rfl rfl rfl AG rfl ?_
 simp only[nmA]
 refine Ah hM6 (args:=#[Aa m]) (v:=Aa sq) (rcf (enters_of Tryz.func71 rfl rfl)) (KS.out W6) rfl fun W7 hM7=>?_
 simp only[nmA]
 refine Ah hM7 (args:=#[Aa sq]) (v:=.tuple #[Aa x,.bool false]) (rcf (enters_of Tryz.func70 rfl rfl)) (KR.out W7) rfl fun W8 hM8=>?_
 simp only[nmA]
 refine Ad (.tuple #[Aa x,.bool false]) ?_
 simp only[nmA]
 refine Ad (Aa x) ?_
 simp only[nmA]
 refine Ad (.bool false) ?_
 simp only[nmA]
 refine At hM8 (ob:=.cells z4 23 (0,0)) (fun W=>Ab rfl (Cr W)) rfl fun b3 W9 hM9=>?_
 simp only[nmA]
 refine Av hM9 0 (cs:=(elR x)) rfl rfl rfl rfl AG rfl (Ay x) rfl rfl fun W10 hM10=>?_
 simp only[nm2,nm3] at hM10
 refine Ad (.bool false) ?_
 simp only[nmA]
 refine wpList_nil ?_
 ((iterate 4 go_step);refine Ak 11 HMIX.out (by decide) (by kernel_rfl) (by kernel_rfl) ?_)
 refine AM (.bool false) ?_;simp only[nmA]
 refine As (v:=.bool true) (fun W=>Df W rfl rfl rfl) rfl rfl ?_;simp only[nmA]
 refine AM (.bool true) ?_;simp only[nmA]
 refine AZ rfl rfl ?_;simp only[nmA]
 refine AZ rfl rfl ?_;simp only[nmA]
 refine AZ rfl rfl ?_;simp only[nmA]
 refine AZ rfl rfl ?_;simp only[nmA]
 refine AZ rfl rfl ?_;simp only[nmA]
 refine AZ rfl rfl ?_;simp only[nmA]
 refine AZ rfl rfl ?_;simp only[nmA]
 refine AM (.bool true) ?_;simp only[nmA]
 refine AO fun d os=>?_
 refine Az fun hap=>?_
 have hM11:=hM10.calls (below_regrown W10 d os)
 clear hap 
 generalize grow (redrawn W10 d) os=W11 at hM11 ⊢
 refine wpAny_done (by kernel_rfl) ?_ _
 ((iterate 4 go_step);refine wp_region_lit ?_)
 refine Ah hM11 (args:=#[]) (v:=pv3 ((0,1,1))) (rcf (enters_of Tryz.func112 rfl rfl)) (IA W11) rfl fun W12 hM12=>?_
 simp only[nmA]
 refine Av hM12 2 (cs:=((rpL ((0,1,1)).1 ((0,1,1)).2.1 ((0,1,1)).2.2).toArray)) rfl rfl rfl rfl Cn rfl (DG _ _ _) rfl rfl fun W13 hM13=>?_
 simp only[nm2,nm3] at hM13
 refine Ad (.int .i64 22) ?_
 simp only[nmA]
 refine wpList_nil ?_
 ((iterate 4 go_step);refine bodyPost_ret (v:=.tuple #[pv3 ((0,1,1)),.int .i64 22]) (AC Tryz.results50 rfl rfl (hM13.load 2 rfl Cn)) rfl ⟨?_,hM13.below⟩)
 exact rfl
theorem XP (s:ByteArray) (hs:s.size=32) (N m bb x:Nat) (hN:leN s.data.toList=N) (em:m=N%(9223372036854775808*B64^3)) (hmB:m<B64^4) (hbb:wd N 3/9223372036854775808=bb) (hm:m<PN) (ex:x=Bu iV (sqR m)) (hok:okN iV (sqR m)=true) (hb1:bb=1) (h0:x=0) (w:World):Calls Tryz.prog 50 #[.string s] w fun E w'=>E=.returned (.tuple #[pv3 ((0,1,1)),.int .i64 22])∧Below w.heap.size w w':=by
 have HMIX:=Lh (show Tryz.prog.follows .mixedOrders=true by kernel_rfl)
 have KN:=Lh (fun w=>Em s hs w)
 rw[hN] at KN
 clear hN
 have KMod:=Lh (fun w=>Hp m w hmB)
 obtain⟨mm,emm⟩:=exza (m%PN)
 rw[← emm] at KMod
 have hmmB:mm<B64^4:=by rw[emm];exact Bv (Nat.mod_lt _ Au)
 have hmm:mm=m:=by rw[emm];exact Nat.mod_eq_of_lt hm
 clear emm
 have hx:x<PN:=by rw[ex];exact BI _
 obtain⟨sq,esq⟩:=exza (sqR m)
 have hsq:sq<PN:=by rw[esq];exact Kb _
 have KS:=Lh (fun w=>Ff m w hm)
 rw[← esq] at KS ex hok
 have KR:=Lh (fun w=>MO sq w hsq)
 rw[← ex,hok] at KR
 clear ex hok
 go_enter Tryz.func50,Tryz.ntmps50
 have hM0:=Mem.start w
 (go_step;go_step;refine wp_region_lit ?_)
 refine At hM0 (ob:=.cells z12 55 (0,0)) (fun W=>Ab rfl (FQ W)) rfl fun b1 W1 hM1=>?_
 simp only[nmA]
 refine Ad (.int .i64 0) ?_
 simp only[nmA]
 refine wpList_nil ?_
 ((iterate 4 go_step);refine wp_region_lit ?_)
 refine Ad (.string s) ?_
 simp only[nmA]
 refine Ac (v:=.int .i64 (s.size:Int)) (fun W=>A8 W rfl (by simp[Act.eval]) rfl Tryz.underlying9) rfl ?_
 simp only[nmA]
 refine Ac (v:=.bool false) (fun W=>Ag rfl rfl rfl (by rw[show false=!decide (s.size=32) from by rw[decide_eq_true hs];rfl];exact FR _ _ _ W)) rfl ?_
 simp only[nmA]
 refine wpList_nil ?_
 ((iterate 7 go_step);refine wp_region_lit ?_)
 refine Ad (.string s) ?_
 simp only[nmA]
 refine Ah hM1 (args:=#[.string s]) (v:=Aa N) (rcf (enters_of Tryz.func22 rfl rfl)) (KN.out W1) rfl fun W2 hM2=>?_
 simp only[nmA]
 refine At hM2 (ob:=.cells z4 23 (0,0)) (fun W=>Ab rfl (Cr W)) rfl fun b2 W3 hM3=>?_
 simp only[nmA]
 refine Av hM3 0 (cs:=(elR N)) rfl rfl rfl rfl AG rfl (Ay N) rfl rfl fun W4 hM4=>?_
 simp only[nm2,nm3] at hM4
 refine wpList_nil ?_
 ((iterate 3 go_step);refine wp_region_lit ?_)
 refine Ac (v:=.pointer (some ⟨b2,3,none⟩)) (fun W=>Ar rfl rfl rfl (Du b2 W)) rfl ?_
 simp only[nmA]
 refine Bc hM4 0 (v:=.int .u64 (wd N 3:Int)) rfl rfl rfl rfl BN rfl ?_
 simp only[nmA]
 refine Ac (v:=.int .u64 (bb:Int)) (fun W=>Ag rfl rfl rfl (by rw[← hbb];exact Fi _ (Cb _ _) _ _ W)) rfl ?_
 simp only[nmA]
 refine Ad (.int .u64 (bb:Int)) ?_
 simp only[nmA]
 refine wpList_nil ?_
 ((iterate 3 go_step);refine wp_region_lit ?_)
 refine Ac (v:=.pointer (some ⟨b2,3,none⟩)) (fun W=>Ar rfl rfl rfl (Du b2 W)) rfl ?_
 simp only[nmA]
 refine Bc hM4 0 (v:=.int .u64 (wd N 3:Int)) rfl rfl rfl rfl BN rfl ?_
 simp only[nmA]
 refine Ac (v:=.int .u64 (((wd N 3)%9223372036854775808:Nat):Int)) (fun W=>Ag rfl rfl rfl (Fm (wd N 3) _ _ W)) rfl ?_
 simp only[nmA]
 refine Ac (v:=.pointer (some ⟨b2,3,none⟩)) (fun W=>Ar rfl rfl rfl (Du b2 W)) rfl ?_
 simp only[nmA]
 refine Ba hM4 0 (cs':=(elR m)) rfl rfl rfl rfl (by show 3<4;decide) (by rw[em];exact Fb N) BN rfl rfl rfl fun W5 hM5=>?_
 simp only[nm2,nm3] at hM5
 refine wpList_nil ?_
 ((iterate 4 go_step);refine Ak 4 HMIX.out (by decide) (by kernel_rfl) (by kernel_rfl) ?_)
 refine Ao hM5 0 (v:=Aa m) rfl rfl rfl rfl AG rfl rfl ?_;simp only[nmA]
 refine Am (args:=#[Aa m]) (v:=Aa mm) (rcf (enters_of Tryz.func113 rfl rfl)) (fun W _=>KMod.out W) rfl rfl ?_;simp only[nmA]
 refine Ao hM5 0 (v:=Aa m) rfl rfl rfl rfl AG rfl rfl ?_;simp only[nmA]
 refine As (v:=.bool false) (fun W=>Ag rfl rfl rfl (by rw[show false=!decide (mm=m) from by rw[decide_eq_true hmm];rfl];exact Fs mm m _ _ W hmmB hmB)) rfl rfl ?_;simp only[nmA]
 refine AO fun d os=>?_
 refine Az fun hap=>?_
 have hM6:=hM5.calls (below_regrown W5 d os)
 clear hap 
 generalize grow (redrawn W5 d) os=W6 at hM6 ⊢
 refine wpAny_done (by kernel_rfl) ?_ _
 ((iterate 7 go_step);refine wp_region_lit ?_)
 refine AD hM6 0 (v:=Aa m) rfl rfl rfl rfl AG rfl ?_
 simp only[nmA]
 refine Ah hM6 (args:=#[Aa m]) (v:=Aa sq) (rcf (enters_of Tryz.func71 rfl rfl)) (KS.out W6) rfl fun W7 hM7=>?_
 simp only[nmA]
 refine Ah hM7 (args:=#[Aa sq]) (v:=.tuple #[Aa x,.bool true]) (rcf (enters_of Tryz.func70 rfl rfl)) (KR.out W7) rfl fun W8 hM8=>?_
 simp only[nmA]
 refine Ad (.tuple #[Aa x,.bool true]) ?_
 simp only[nmA]
 refine Ad (Aa x) ?_
 simp only[nmA]
 refine Ad (.bool true) ?_
 simp only[nmA]
 refine At hM8 (ob:=.cells z4 23 (0,0)) (fun W=>Ab rfl (Cr W)) rfl fun b3 W9 hM9=>?_
 simp only[nmA]
 refine Av hM9 0 (cs:=(elR x)) rfl rfl rfl rfl AG rfl (Ay x) rfl rfl fun W10 hM10=>?_
 simp only[nm2,nm3] at hM10
 refine Ad (.bool true) ?_
 simp only[nmA]
 refine wpList_nil ?_
 ((iterate 4 go_step);refine Ak 11 HMIX.out (by decide) (by kernel_rfl) (by kernel_rfl) ?_)
 refine AM (.bool true) ?_;simp only[nmA]
 refine As (v:=.bool false) (fun W=>Df W rfl rfl rfl) rfl rfl ?_;simp only[nmA]
 refine AM (.bool false) ?_;simp only[nmA]
 refine AM (.int .u64 (bb:Int)) ?_;simp only[nmA]
 refine As (v:=.bool true) (fun W=>Ag rfl rfl rfl (by rw[show true=decide (bb=1) from (decide_eq_true hb1).symm];exact Eu bb _ _ W)) rfl rfl ?_;simp only[nmA]
 refine AM (.bool true) ?_;simp only[nmA]
 refine Ao hM10 0 (v:=Aa x) rfl rfl rfl rfl AG rfl rfl ?_;simp only[nmA]
 refine Am (args:=#[.int .u64 0]) (v:=Aa 0) (rcf (enters_of Tryz.func68 rfl rfl)) (fun W _=>Dw 0 (by decide) W) rfl rfl ?_;simp only[nmA]
 refine As (v:=.bool true) (fun W=>Ag rfl rfl rfl (by rw[show true=decide (x=0) from (decide_eq_true h0).symm];exact Kh x 0 _ _ W (Bv hx) (Bv Au))) rfl rfl ?_;simp only[nmA]
 refine AM (.bool true) ?_;simp only[nmA]
 refine AM (.bool true) ?_;simp only[nmA]
 refine AO fun d os=>?_
 refine Az fun hap=>?_
 have hM11:=hM10.calls (below_regrown W10 d os)
 clear hap 
 generalize grow (redrawn W10 d) os=W11 at hM11 ⊢
 refine wpAny_done (by kernel_rfl) ?_ _
 ((iterate 4 go_step);refine wp_region_lit ?_)
 refine Ah hM11 (args:=#[]) (v:=pv3 ((0,1,1))) (rcf (enters_of Tryz.func112 rfl rfl)) (IA W11) rfl fun W12 hM12=>?_
 simp only[nmA]
 refine Av hM12 2 (cs:=((rpL ((0,1,1)).1 ((0,1,1)).2.1 ((0,1,1)).2.2).toArray)) rfl rfl rfl rfl Cn rfl (DG _ _ _) rfl rfl fun W13 hM13=>?_
 simp only[nm2,nm3] at hM13
 refine Ad (.int .i64 22) ?_
 simp only[nmA]
 refine wpList_nil ?_
 ((iterate 4 go_step);refine bodyPost_ret (v:=.tuple #[pv3 ((0,1,1)),.int .i64 22]) (AC Tryz.results50 rfl rfl (hM13.load 2 rfl Cn)) rfl ⟨?_,hM13.below⟩)
 exact rfl
theorem VP (s:ByteArray) (hs:s.size=32) (N m bb x:Nat) (hN:leN s.data.toList=N) (em:m=N%(9223372036854775808*B64^3)) (hmB:m<B64^4) (hbb:wd N 3/9223372036854775808=bb) (hm:m<PN) (ex:x=Bu iV (sqR m)) (hok:okN iV (sqR m)=true) (hb1:¬ bb=1)  (w:World):Calls Tryz.prog 50 #[.string s] w fun E w'=>E=.returned (.tuple #[pv3 ((x,m,1)),.int .i64 0])∧Below w.heap.size w w':=by
 have HMIX:=Lh (show Tryz.prog.follows .mixedOrders=true by kernel_rfl)
 have KN:=Lh (fun w=>Em s hs w)
 rw[hN] at KN
 clear hN
 have KMod:=Lh (fun w=>Hp m w hmB)
 obtain⟨mm,emm⟩:=exza (m%PN)
 rw[← emm] at KMod
 have hmmB:mm<B64^4:=by rw[emm];exact Bv (Nat.mod_lt _ Au)
 have hmm:mm=m:=by rw[emm];exact Nat.mod_eq_of_lt hm
 clear emm
 have hx:x<PN:=by rw[ex];exact BI _
 obtain⟨sq,esq⟩:=exza (sqR m)
 have hsq:sq<PN:=by rw[esq];exact Kb _
 have KS:=Lh (fun w=>Ff m w hm)
 rw[← esq] at KS ex hok
 have KR:=Lh (fun w=>MO sq w hsq)
 rw[← ex,hok] at KR
 clear ex hok
 go_enter Tryz.func50,Tryz.ntmps50
 have hM0:=Mem.start w
 (go_step;go_step;refine wp_region_lit ?_)
 refine At hM0 (ob:=.cells z12 55 (0,0)) (fun W=>Ab rfl (FQ W)) rfl fun b1 W1 hM1=>?_
 simp only[nmA]
 refine Ad (.int .i64 0) ?_
 simp only[nmA]
 refine wpList_nil ?_
 ((iterate 4 go_step);refine wp_region_lit ?_)
 refine Ad (.string s) ?_
 simp only[nmA]
 refine Ac (v:=.int .i64 (s.size:Int)) (fun W=>A8 W rfl (by simp[Act.eval]) rfl Tryz.underlying9) rfl ?_
 simp only[nmA]
 refine Ac (v:=.bool false) (fun W=>Ag rfl rfl rfl (by rw[show false=!decide (s.size=32) from by rw[decide_eq_true hs];rfl];exact FR _ _ _ W)) rfl ?_
 simp only[nmA]
 refine wpList_nil ?_
 ((iterate 7 go_step);refine wp_region_lit ?_)
 refine Ad (.string s) ?_
 simp only[nmA]
 refine Ah hM1 (args:=#[.string s]) (v:=Aa N) (rcf (enters_of Tryz.func22 rfl rfl)) (KN.out W1) rfl fun W2 hM2=>?_
 simp only[nmA]
 refine At hM2 (ob:=.cells z4 23 (0,0)) (fun W=>Ab rfl (Cr W)) rfl fun b2 W3 hM3=>?_
 simp only[nmA]
 refine Av hM3 0 (cs:=(elR N)) rfl rfl rfl rfl AG rfl (Ay N) rfl rfl fun W4 hM4=>?_
 simp only[nm2,nm3] at hM4
 refine wpList_nil ?_
 ((iterate 3 go_step);refine wp_region_lit ?_)
 refine Ac (v:=.pointer (some ⟨b2,3,none⟩)) (fun W=>Ar rfl rfl rfl (Du b2 W)) rfl ?_
 simp only[nmA]
 refine Bc hM4 0 (v:=.int .u64 (wd N 3:Int)) rfl rfl rfl rfl BN rfl ?_
 simp only[nmA]
 refine Ac (v:=.int .u64 (bb:Int)) (fun W=>Ag rfl rfl rfl (by rw[← hbb];exact Fi _ (Cb _ _) _ _ W)) rfl ?_
 simp only[nmA]
 refine Ad (.int .u64 (bb:Int)) ?_
 simp only[nmA]
 refine wpList_nil ?_
 ((iterate 3 go_step);refine wp_region_lit ?_)
 refine Ac (v:=.pointer (some ⟨b2,3,none⟩)) (fun W=>Ar rfl rfl rfl (Du b2 W)) rfl ?_
 simp only[nmA]
 refine Bc hM4 0 (v:=.int .u64 (wd N 3:Int)) rfl rfl rfl rfl BN rfl ?_
 simp only[nmA]
 refine Ac (v:=.int .u64 (((wd N 3)%9223372036854775808:Nat):Int)) (fun W=>Ag rfl rfl rfl (Fm (wd N 3) _ _ W)) rfl ?_
 simp only[nmA]
 refine Ac (v:=.pointer (some ⟨b2,3,none⟩)) (fun W=>Ar rfl rfl rfl (Du b2 W)) rfl ?_
 simp only[nmA]
 refine Ba hM4 0 (cs':=(elR m)) rfl rfl rfl rfl (by show 3<4;decide) (by rw[em];exact Fb N) BN rfl rfl rfl fun W5 hM5=>?_
 simp only[nm2,nm3] at hM5
 refine wpList_nil ?_
 ((iterate 4 go_step);refine Ak 4 HMIX.out (by decide) (by kernel_rfl) (by kernel_rfl) ?_)
 refine Ao hM5 0 (v:=Aa m) rfl rfl rfl rfl AG rfl rfl ?_;simp only[nmA]
 refine Am (args:=#[Aa m]) (v:=Aa mm) (rcf (enters_of Tryz.func113 rfl rfl)) (fun W _=>KMod.out W) rfl rfl ?_;simp only[nmA]
 refine Ao hM5 0 (v:=Aa m) rfl rfl rfl rfl AG rfl rfl ?_;simp only[nmA]
 refine As (v:=.bool false) (fun W=>Ag rfl rfl rfl (by rw[show false=!decide (mm=m) from by rw[decide_eq_true hmm];rfl];exact Fs mm m _ _ W hmmB hmB)) rfl rfl ?_;simp only[nmA]
 refine AO fun d os=>?_
 refine Az fun hap=>?_
 have hM6:=hM5.calls (below_regrown W5 d os)
 clear hap 
 generalize grow (redrawn W5 d) os=W6 at hM6 ⊢
 refine wpAny_done (by kernel_rfl) ?_ _
 ((iterate 7 go_step);refine wp_region_lit ?_)
 refine AD hM6 0 (v:=Aa m) rfl rfl rfl rfl AG rfl ?_
 simp only[nmA]
 refine Ah hM6 (args:=#[Aa m]) (v:=Aa sq) (rcf (enters_of Tryz.func71 rfl rfl)) (KS.out W6) rfl fun W7 hM7=>?_
 simp only[nmA]
 refine Ah hM7 (args:=#[Aa sq]) (v:=.tuple #[Aa x,.bool true]) (rcf (enters_of Tryz.func70 rfl rfl)) (KR.out W7) rfl fun W8 hM8=>?_
 simp only[nmA]
 refine Ad (.tuple #[Aa x,.bool true]) ?_
 simp only[nmA]
 refine Ad (Aa x) ?_
 simp only[nmA]
 refine Ad (.bool true) ?_
 simp only[nmA]
 refine At hM8 (ob:=.cells z4 23 (0,0)) (fun W=>Ab rfl (Cr W)) rfl fun b3 W9 hM9=>?_
 simp only[nmA]
 refine Av hM9 0 (cs:=(elR x)) rfl rfl rfl rfl AG rfl (Ay x) rfl rfl fun W10 hM10=>?_
 simp only[nm2,nm3] at hM10
 refine Ad (.bool true) ?_
 simp only[nmA]
 refine wpList_nil ?_
 ((iterate 4 go_step);refine Ak 11 HMIX.out (by decide) (by kernel_rfl) (by kernel_rfl) ?_)
 refine AM (.bool true) ?_;simp only[nmA]
 refine As (v:=.bool false) (fun W=>Df W rfl rfl rfl) rfl rfl ?_;simp only[nmA]
 refine AM (.bool false) ?_;simp only[nmA]
 refine AM (.int .u64 (bb:Int)) ?_;simp only[nmA]
 refine As (v:=.bool false) (fun W=>Ag rfl rfl rfl (by rw[show false=decide (bb=1) from (decide_eq_false hb1).symm];exact Eu bb _ _ W)) rfl rfl ?_;simp only[nmA]
 refine AM (.bool false) ?_;simp only[nmA]
 refine AZ rfl rfl ?_;simp only[nmA]
 refine AZ rfl rfl ?_;simp only[nmA]
 refine AZ rfl rfl ?_;simp only[nmA]
 refine AM (.bool false) ?_;simp only[nmA]
 refine AM (.bool false) ?_;simp only[nmA]
 refine AO fun d os=>?_
 refine Az fun hap=>?_
 have hM11:=hM10.calls (below_regrown W10 d os)
 clear hap 
 generalize grow (redrawn W10 d) os=W11 at hM11 ⊢
 refine wpAny_done (by kernel_rfl) ?_ _
 ((iterate 8 go_step);refine wp_region_lit ?_)
 refine Ad (.int .u64 (bb:Int)) ?_
 simp only[nmA]
 refine Ac (v:=.bool false) (fun W=>Ag rfl rfl rfl (by rw[show false=decide (bb=1) from (decide_eq_false hb1).symm];exact Eu bb _ _ W)) rfl ?_
 simp only[nmA]
 refine wpList_nil ?_
 ((iterate 7 go_step);refine wp_region_lit ?_)
 refine AD hM11 0 (v:=Aa x) rfl rfl rfl rfl AG rfl ?_
 simp only[nmA]
 refine AD hM11 1 (v:=Aa m) rfl rfl rfl rfl AG rfl ?_
 simp only[nmA]
 refine Ah hM11 (args:=#[Aa x,Aa m]) (v:=pv3 ((x,m,1))) (rcf (enters_of Tryz.func72 rfl rfl)) (JI x m W11) rfl fun W12 hM12=>?_
 simp only[nmA]
 refine Av hM12 2 (cs:=((rpL x m 1).toArray)) rfl rfl rfl rfl Cn rfl (DG _ _ _) rfl rfl fun W13 hM13=>?_
 simp only[nm2,nm3] at hM13
 refine Ad (.int .i64 0) ?_
 simp only[nmA]
 refine wpList_nil ?_
 ((iterate 3 go_step);refine bodyPost_ret (v:=.tuple #[pv3 ((x,m,1)),.int .i64 0]) (AC Tryz.results50 rfl rfl (hM13.load 2 rfl Cn)) rfl ⟨?_,hM13.below⟩)
 exact rfl
theorem WC (s:ByteArray) (hs:s.size=32) (N m bb x:Nat) (hN:leN s.data.toList=N) (em:m=N%(9223372036854775808*B64^3)) (hmB:m<B64^4) (hbb:wd N 3/9223372036854775808=bb) (hm:m<PN) (ex:x=Bu iV (sqR m)) (hok:okN iV (sqR m)=true) (hb1:bb=1) (h0:¬ x=0) (w:World):Calls Tryz.prog 50 #[.string s] w fun E w'=>E=.returned (.tuple #[pv3 (((0+PN-x)%PN,m,1)),.int .i64 0])∧Below w.heap.size w w':=by
 have HMIX:=Lh (show Tryz.prog.follows .mixedOrders=true by kernel_rfl)
 have KN:=Lh (fun w=>Em s hs w)
 rw[hN] at KN
 clear hN
 have KMod:=Lh (fun w=>Hp m w hmB)
 obtain⟨mm,emm⟩:=exza (m%PN)
 rw[← emm] at KMod
 have hmmB:mm<B64^4:=by rw[emm];exact Bv (Nat.mod_lt _ Au)
 have hmm:mm=m:=by rw[emm];exact Nat.mod_eq_of_lt hm
 clear emm
 have hx:x<PN:=by rw[ex];exact BI _
 obtain⟨sq,esq⟩:=exza (sqR m)
 have hsq:sq<PN:=by rw[esq];exact Kb _
 have KS:=Lh (fun w=>Ff m w hm)
 rw[← esq] at KS ex hok
 have KR:=Lh (fun w=>MO sq w hsq)
 rw[← ex,hok] at KR
 clear ex hok
 obtain⟨x1,ex1⟩:=exza ((0+PN-x)%PN)
 have KSub:=Lh (fun w=>Qj 0 x w Au hx)
 rw[← ex1] at KSub
 rw[← ex1]
 clear ex1
 go_enter Tryz.func50,Tryz.ntmps50
 have hM0:=Mem.start w
 (go_step;go_step;refine wp_region_lit ?_)
 refine At hM0 (ob:=.cells z12 55 (0,0)) (fun W=>Ab rfl (FQ W)) rfl fun b1 W1 hM1=>?_
 simp only[nmA]
 refine Ad (.int .i64 0) ?_
 simp only[nmA]
 refine wpList_nil ?_
 ((iterate 4 go_step);refine wp_region_lit ?_)
 refine Ad (.string s) ?_
 simp only[nmA]
 refine Ac (v:=.int .i64 (s.size:Int)) (fun W=>A8 W rfl (by simp[Act.eval]) rfl Tryz.underlying9) rfl ?_
 simp only[nmA]
 refine Ac (v:=.bool false) (fun W=>Ag rfl rfl rfl (by rw[show false=!decide (s.size=32) from by rw[decide_eq_true hs];rfl];exact FR _ _ _ W)) rfl ?_
 simp only[nmA]
 refine wpList_nil ?_
 ((iterate 7 go_step);refine wp_region_lit ?_)
 refine Ad (.string s) ?_
 simp only[nmA]
 refine Ah hM1 (args:=#[.string s]) (v:=Aa N) (rcf (enters_of Tryz.func22 rfl rfl)) (KN.out W1) rfl fun W2 hM2=>?_
 simp only[nmA]
 refine At hM2 (ob:=.cells z4 23 (0,0)) (fun W=>Ab rfl (Cr W)) rfl fun b2 W3 hM3=>?_
 simp only[nmA]
 refine Av hM3 0 (cs:=(elR N)) rfl rfl rfl rfl AG rfl (Ay N) rfl rfl fun W4 hM4=>?_
 simp only[nm2,nm3] at hM4
 refine wpList_nil ?_
 ((iterate 3 go_step);refine wp_region_lit ?_)
 refine Ac (v:=.pointer (some ⟨b2,3,none⟩)) (fun W=>Ar rfl rfl rfl (Du b2 W)) rfl ?_
 simp only[nmA]
 refine Bc hM4 0 (v:=.int .u64 (wd N 3:Int)) rfl rfl rfl rfl BN rfl ?_
 simp only[nmA]
 refine Ac (v:=.int .u64 (bb:Int)) (fun W=>Ag rfl rfl rfl (by rw[← hbb];exact Fi _ (Cb _ _) _ _ W)) rfl ?_
 simp only[nmA]
 refine Ad (.int .u64 (bb:Int)) ?_
 simp only[nmA]
 refine wpList_nil ?_
 ((iterate 3 go_step);refine wp_region_lit ?_)
 refine Ac (v:=.pointer (some ⟨b2,3,none⟩)) (fun W=>Ar rfl rfl rfl (Du b2 W)) rfl ?_
 simp only[nmA]
 refine Bc hM4 0 (v:=.int .u64 (wd N 3:Int)) rfl rfl rfl rfl BN rfl ?_
 simp only[nmA]
 refine Ac (v:=.int .u64 (((wd N 3)%9223372036854775808:Nat):Int)) (fun W=>Ag rfl rfl rfl (Fm (wd N 3) _ _ W)) rfl ?_
 simp only[nmA]
 refine Ac (v:=.pointer (some ⟨b2,3,none⟩)) (fun W=>Ar rfl rfl rfl (Du b2 W)) rfl ?_
 simp only[nmA]
 refine Ba hM4 0 (cs':=(elR m)) rfl rfl rfl rfl (by show 3<4;decide) (by rw[em];exact Fb N) BN rfl rfl rfl fun W5 hM5=>?_
 simp only[nm2,nm3] at hM5
 refine wpList_nil ?_
 ((iterate 4 go_step);refine Ak 4 HMIX.out (by decide) (by kernel_rfl) (by kernel_rfl) ?_)
 refine Ao hM5 0 (v:=Aa m) rfl rfl rfl rfl AG rfl rfl ?_;simp only[nmA]
 refine Am (args:=#[Aa m]) (v:=Aa mm) (rcf (enters_of Tryz.func113 rfl rfl)) (fun W _=>KMod.out W) rfl rfl ?_;simp only[nmA]
 refine Ao hM5 0 (v:=Aa m) rfl rfl rfl rfl AG rfl rfl ?_;simp only[nmA]
 refine As (v:=.bool false) (fun W=>Ag rfl rfl rfl (by rw[show false=!decide (mm=m) from by rw[decide_eq_true hmm];rfl];exact Fs mm m _ _ W hmmB hmB)) rfl rfl ?_;simp only[nmA]
 refine AO fun d os=>?_
 refine Az fun hap=>?_
 have hM6:=hM5.calls (below_regrown W5 d os)
 clear hap 
 generalize grow (redrawn W5 d) os=W6 at hM6 ⊢
 refine wpAny_done (by kernel_rfl) ?_ _
 ((iterate 7 go_step);refine wp_region_lit ?_)
 refine AD hM6 0 (v:=Aa m) rfl rfl rfl rfl AG rfl ?_
 simp only[nmA]
 refine Ah hM6 (args:=#[Aa m]) (v:=Aa sq) (rcf (enters_of Tryz.func71 rfl rfl)) (KS.out W6) rfl fun W7 hM7=>?_
 simp only[nmA]
 refine Ah hM7 (args:=#[Aa sq]) (v:=.tuple #[Aa x,.bool true]) (rcf (enters_of Tryz.func70 rfl rfl)) (KR.out W7) rfl fun W8 hM8=>?_
 simp only[nmA]
 refine Ad (.tuple #[Aa x,.bool true]) ?_
 simp only[nmA]
 refine Ad (Aa x) ?_
 simp only[nmA]
 refine Ad (.bool true) ?_
 simp only[nmA]
 refine At hM8 (ob:=.cells z4 23 (0,0)) (fun W=>Ab rfl (Cr W)) rfl fun b3 W9 hM9=>?_
 simp only[nmA]
 refine Av hM9 0 (cs:=(elR x)) rfl rfl rfl rfl AG rfl (Ay x) rfl rfl fun W10 hM10=>?_
 simp only[nm2,nm3] at hM10
 refine Ad (.bool true) ?_
 simp only[nmA]
 refine wpList_nil ?_
 ((iterate 4 go_step);refine Ak 11 HMIX.out (by decide) (by kernel_rfl) (by kernel_rfl) ?_)
 refine AM (.bool true) ?_;simp only[nmA]
 refine As (v:=.bool false) (fun W=>Df W rfl rfl rfl) rfl rfl ?_;simp only[nmA]
 refine AM (.bool false) ?_;simp only[nmA]
 refine AM (.int .u64 (bb:Int)) ?_;simp only[nmA]
 refine As (v:=.bool true) (fun W=>Ag rfl rfl rfl (by rw[show true=decide (bb=1) from (decide_eq_true hb1).symm];exact Eu bb _ _ W)) rfl rfl ?_;simp only[nmA]
 refine AM (.bool true) ?_;simp only[nmA]
 refine Ao hM10 0 (v:=Aa x) rfl rfl rfl rfl AG rfl rfl ?_;simp only[nmA]
 refine Am (args:=#[.int .u64 0]) (v:=Aa 0) (rcf (enters_of Tryz.func68 rfl rfl)) (fun W _=>Dw 0 (by decide) W) rfl rfl ?_;simp only[nmA]
 refine As (v:=.bool false) (fun W=>Ag rfl rfl rfl (by rw[show false=decide (x=0) from (decide_eq_false h0).symm];exact Kh x 0 _ _ W (Bv hx) (Bv Au))) rfl rfl ?_;simp only[nmA]
 refine AM (.bool false) ?_;simp only[nmA]
 refine AM (.bool false) ?_;simp only[nmA]
 refine AO fun d os=>?_
 refine Az fun hap=>?_
 have hM11:=hM10.calls (below_regrown W10 d os)
 clear hap 
 generalize grow (redrawn W10 d) os=W11 at hM11 ⊢
 refine wpAny_done (by kernel_rfl) ?_ _
 ((iterate 8 go_step);refine wp_region_lit ?_)
 refine Ad (.int .u64 (bb:Int)) ?_
 simp only[nmA]
 refine Ac (v:=.bool true) (fun W=>Ag rfl rfl rfl (by rw[show true=decide (bb=1) from (decide_eq_true hb1).symm];exact Eu bb _ _ W)) rfl ?_
 simp only[nmA]
 refine wpList_nil ?_
 ((iterate 3 go_step);refine Ak 3 HMIX.out (by decide) (by kernel_rfl) (by kernel_rfl) ?_)
 refine Am (args:=#[.int .u64 0]) (v:=Aa 0) (rcf (enters_of Tryz.func68 rfl rfl)) (fun W _=>Dw 0 (by decide) W) rfl rfl ?_;simp only[nmA]
 refine Ao hM11 0 (v:=Aa x) rfl rfl rfl rfl AG rfl rfl ?_;simp only[nmA]
 refine Am (args:=#[Aa 0,Aa x]) (v:=Aa x1) (rcf (enters_of Tryz.func114 rfl rfl)) (fun W _=>KSub.out W) rfl rfl ?_;simp only[nmA]
 refine AO fun d os=>?_
 refine Az fun hap=>?_
 have hM12:=hM11.calls (below_regrown W11 d os)
 clear hap 
 generalize grow (redrawn W11 d) os=W12 at hM12 ⊢
 change wpAny _ _ _ _ 1 _ _ _
 refine A7 (n:=3) (by kernel_rfl) rfl hM12 0 (cs:=(elR x1)) rfl rfl rfl rfl AG rfl (Ay x1) rfl rfl fun W13 hM13=>?_
 simp only[nm2,nm3] at hM13
 refine wpAny_done (by kernel_rfl) ?_ _
 ((iterate 3 go_step);refine wp_region_lit ?_)
 refine AD hM13 0 (v:=Aa x1) rfl rfl rfl rfl AG rfl ?_
 simp only[nmA]
 refine AD hM13 1 (v:=Aa m) rfl rfl rfl rfl AG rfl ?_
 simp only[nmA]
 refine Ah hM13 (args:=#[Aa x1,Aa m]) (v:=pv3 ((x1,m,1))) (rcf (enters_of Tryz.func72 rfl rfl)) (JI x1 m W13) rfl fun W14 hM14=>?_
 simp only[nmA]
 refine Av hM14 2 (cs:=((rpL x1 m 1).toArray)) rfl rfl rfl rfl Cn rfl (DG _ _ _) rfl rfl fun W15 hM15=>?_
 simp only[nm2,nm3] at hM15
 refine Ad (.int .i64 0) ?_
 simp only[nmA]
 refine wpList_nil ?_
 ((iterate 3 go_step);refine bodyPost_ret (v:=.tuple #[pv3 ((x1,m,1)),.int .i64 0]) (AC Tryz.results50 rfl rfl (hM15.load 2 rfl Cn)) rfl ⟨?_,hM15.below⟩)
 exact rfl
theorem QR (s:ByteArray) (hs:s.size=32):∃ b:N3,Ok3 b (Qx (leN s.data.toList))∧∀ w,Calls Tryz.prog 50 #[.string s] w fun E w'=>E=.returned (.tuple #[pv3 b,.int .i64 (M9 (leN s.data.toList):Int)])∧Below w.heap.size w w':=by
 have hNB:=Uk s hs
 obtain⟨N,hN⟩:=exzb (leN s.data.toList)
 rw[hN] at hNB ⊢
 obtain⟨b0,b1⟩:=PQ N
 have htb:=bD N
 obtain⟨y,x,ok,b,ey,hyN,ex,hok,hb,hE,hX,hP⟩:=NE N
 have hmB:y<B64^4:=Nat.lt_of_le_of_lt hyN hNB
 have hxl:x<PN:=by rw[ex];exact BI _
 by_cases hm:y<PN
 ·rw[if_pos hm] at hE
  cases ok
  ·rw[if_neg (by decide)] at hE
   rw[hE,if_neg (by decide)] at hP
   rw[hE,hP]
   exact⟨(0,1,1),Jj,fun w=>aU s hs N y _ x hN ey hmB rfl hm ex hok w⟩
  ·rw[if_pos rfl] at hE
   have hon:On (fz x,fz y):=by rw[ex];exact Jx y hok
   cases b
   ·rw[if_neg (by simp)] at hE
    rw[if_neg (by decide)] at hX
    rw[hE,if_pos rfl,hX] at hP
    rw[hE,hP]
    exact⟨_,Yc x y hxl hm hon,fun w=>VP s hs N y _ x hN ey hmB htb hm ex hok (by rw[b0 hb];decide) w⟩
   ·by_cases h0:x=0
    ·rw[if_pos ⟨rfl,h0⟩] at hE
     rw[hE,if_neg (by decide)] at hP
     rw[hE,hP]
     exact⟨(0,1,1),Jj,fun w=>XP s hs N y _ x hN ey hmB htb hm ex hok (b1 hb) h0 w⟩
    ·rw[if_neg (fun h=>h0 h.2)] at hE
     rw[if_pos rfl] at hX
     rw[hE,if_pos rfl,hX] at hP
     have hon2:On (fz ((0+PN-x)%PN),fz y):=by rw[F6 x hxl];exact JJ (fz x,fz y) hon
     rw[hE,hP]
     exact⟨_,Yc _ y (Nat.mod_lt _ Au) hm hon2,fun w=>WC s hs N y _ x hN ey hmB htb hm ex hok (b1 hb) h0 w⟩
 ·rw[if_neg hm] at hE
  rw[hE,if_neg (by decide)] at hP
  rw[hE,hP]
  exact⟨(0,1,1),Jj,fun w=>Td s hs N y _ hN ey hmB rfl hm w⟩
theorem EF (n k:Nat) (c:Bool) (hc:(n != k)=c) (x y:Operand) (W:World):(do eqGuard .neq 3 x y (.int .i64 (n:Int)) (.int .i64 (k:Int));binOp .neq 3 (.int .i64 (n:Int)) (.int .i64 (k:Int)):Sem Value).run Tryz.prog W=.ok (.bool c) W:=by
 have e:((n:Int) != (k:Int))=c:=by
  rw[← hc,bne,bne]
  congr 1
  rw[Bool.eq_iff_iff]
  simp
  omega
 clear hc
 go_simp
theorem Iu {s t:ByteArray}:s.toList=t.toList↔s=t:=by
 constructor
 ·intro h
  rw[ByteArray.toList_eq,ByteArray.toList_eq] at h
  have h2:=Array.toList_inj.1 h
  cases s
  cases t
  exact congrArg ByteArray.mk h2
 ·intro h
  rw[h]
theorem T4 (s t:ByteArray) (c:Bool) (hc:(!decide (s=t))=c) (x y:Operand) (W:World):(do eqGuard .neq 9 x y (.string s) (.string t);binOp .neq 9 (.string s) (.string t):Sem Value).run Tryz.prog W=.ok (.bool c) W:=by
 have e:(s.toList == t.toList)=!c:=by
  rw[← hc,Bool.not_not,Bool.eq_iff_iff,beq_iff_eq,decide_eq_true_iff]
  exact Iu
 clear hc
 go_simp
theorem YJ (p g:ByteArray) (a2:Option Addr) (l2 c2:Nat) (hp:(p.size != 32)=true) (w:World):Calls Tryz.prog 16 #[.string p,.string g,.slice a2 l2 c2] w fun E w'=>E=.returned (.int .i64 1)∧Below w.heap.size w w':=by
 have HMIX:=Lh (show Tryz.prog.follows .mixedOrders=true by kernel_rfl)
 go_enter Tryz.func16,Tryz.ntmps16
 have hM0:=Mem.start w
 (go_step;go_step;refine wp_region_lit ?_)
 refine Ad (.int .i64 0) ?_
 simp only[nmA]
 refine wpList_nil ?_
 ((iterate 4 go_step);refine wp_region_lit ?_)
 refine Ad (.string p) ?_
 simp only[nmA]
 refine Ac (v:=.int .i64 (p.size:Int)) (fun W=>A8 W rfl (by simp[Act.eval]) rfl Tryz.underlying9) rfl ?_
 simp only[nmA]
 refine Ac (v:=.bool true) (fun W=>Ag rfl rfl rfl (EF p.size 32 true hp _ _ W)) rfl ?_
 simp only[nmA]
 refine Ad (.bool true) ?_
 simp only[nmA]
 refine Dg rfl ?_
 simp only[nmA]
 refine Dg rfl ?_
 simp only[nmA]
 refine Dg rfl ?_
 simp only[nmA]
 refine Ad (.bool true) ?_
 simp only[nmA]
 refine wpList_nil ?_
 ((iterate 4 go_step);refine wp_region_lit ?_)
 refine Ad (.int .i64 1) ?_
 simp only[nmA]
 refine wpList_nil ?_
 ((iterate 4 go_step);refine bodyPost_ret (v:=.int .i64 1) (AY Tryz.results16 rfl) rfl ⟨?_,hM0.below⟩)
 exact rfl
theorem ZM (p g:ByteArray) (a2:Option Addr) (l2 c2:Nat) (hp:(p.size != 32)=false) (hg:(g.size != 64)=true) (w:World):Calls Tryz.prog 16 #[.string p,.string g,.slice a2 l2 c2] w fun E w'=>E=.returned (.int .i64 1)∧Below w.heap.size w w':=by
 have HMIX:=Lh (show Tryz.prog.follows .mixedOrders=true by kernel_rfl)
 go_enter Tryz.func16,Tryz.ntmps16
 have hM0:=Mem.start w
 (go_step;go_step;refine wp_region_lit ?_)
 refine Ad (.int .i64 0) ?_
 simp only[nmA]
 refine wpList_nil ?_
 ((iterate 4 go_step);refine wp_region_lit ?_)
 refine Ad (.string p) ?_
 simp only[nmA]
 refine Ac (v:=.int .i64 (p.size:Int)) (fun W=>A8 W rfl (by simp[Act.eval]) rfl Tryz.underlying9) rfl ?_
 simp only[nmA]
 refine Ac (v:=.bool false) (fun W=>Ag rfl rfl rfl (EF p.size 32 false hp _ _ W)) rfl ?_
 simp only[nmA]
 refine Ad (.bool false) ?_
 simp only[nmA]
 refine Ad (.string g) ?_
 simp only[nmA]
 refine Ac (v:=.int .i64 (g.size:Int)) (fun W=>A8 W rfl (by simp[Act.eval]) rfl Tryz.underlying9) rfl ?_
 simp only[nmA]
 refine Ac (v:=.bool true) (fun W=>Ag rfl rfl rfl (EF g.size 64 true hg _ _ W)) rfl ?_
 simp only[nmA]
 refine Ad (.bool true) ?_
 simp only[nmA]
 refine wpList_nil ?_
 ((iterate 4 go_step);refine wp_region_lit ?_)
 refine Ad (.int .i64 1) ?_
 simp only[nmA]
 refine wpList_nil ?_
 ((iterate 4 go_step);refine bodyPost_ret (v:=.int .i64 1) (AY Tryz.results16 rfl) rfl ⟨?_,hM0.below⟩)
 exact rfl
theorem OG (p g:ByteArray) (a2:Option Addr) (l2 c2:Nat) (hp:(p.size != 32)=false) (hg:(g.size != 64)=false) (D:N4) (hH:g.size=64) (G1 G2:ByteArray) (e1:g.extract 0 32=G1) (e2:g.extract 32 g.size=G2) (z eD eS R:Nat) (KD:Hid (∀ w,Calls Tryz.prog 10 #[.string p] w fun E w'=>E=.returned (.tuple #[pv4 D,.int .i64 (eD:Int)])∧Below w.heap.size w w')) (KS:Hid (∀ w,Calls Tryz.prog 48 #[.string G2] w fun E w'=>E=.returned (.tuple #[Aa z,.int .i64 (eS:Int)])∧Below w.heap.size w w')) {P:Pt} (oD:Ok4 D P) (ss2:List (List UInt8)) (hl:l2=ss2.length) (hl2:ss2.length≤1000) (D2:List UInt8) (hD2:hs5 ([G1.data.toList,p.data.toList].flatten++ss2.flatten) D2) (hn_D2:[G1.data.toList,p.data.toList].flatten.length+ss2.flatten.length≤1000000) (N2:Nat) (eN2:leN D2%LN=N2) (B:N4) (KB:Hid (∀ w,Calls Tryz.prog 49 #[Aa N2,pv4 (G9 D),Aa z] w fun E w'=>E=.returned (pv4 B)∧Below w.heap.size w w')) (EB:ByteArray) (KE:Hid (∀ w,Calls Tryz.prog 40 #[pv4 B] w fun E w'=>E=.returned (.string EB)∧Below w.heap.size w w')) (hR:R=bif !decide (eD=0) then eD else bif !decide (eS=0) then eS else bif !decide (EB=G1) then 21 else 0) (w:World) (hs2:DN w a2 ss2):Calls Tryz.prog 16 #[.string p,.string g,.slice a2 l2 c2] w fun E w'=>E=.returned (.int .i64 (R:Int))∧Below w.heap.size w w':=by
 subst hl
 obtain⟨l2,el2⟩:=exza (ss2.length)
 have KNM:=Lh (fun W h=>Rn a2 c2 ss2 W h)
 rw[← el2] at KNM ⊢
 have HMIX:=Lh (show Tryz.prog.follows .mixedOrders=true by kernel_rfl)
 go_enter Tryz.func16,Tryz.ntmps16
 have hM0:=Mem.start w
 (go_step;go_step;refine wp_region_lit ?_)
 refine Ad (.int .i64 0) ?_
 simp only[nmA]
 refine wpList_nil ?_
 ((iterate 4 go_step);refine wp_region_lit ?_)
 refine Ad (.string p) ?_
 simp only[nmA]
 refine Ac (v:=.int .i64 (p.size:Int)) (fun W=>A8 W rfl (by simp[Act.eval]) rfl Tryz.underlying9) rfl ?_
 simp only[nmA]
 refine Ac (v:=.bool false) (fun W=>Ag rfl rfl rfl (EF p.size 32 false hp _ _ W)) rfl ?_
 simp only[nmA]
 refine Ad (.bool false) ?_
 simp only[nmA]
 refine Ad (.string g) ?_
 simp only[nmA]
 refine Ac (v:=.int .i64 (g.size:Int)) (fun W=>A8 W rfl (by simp[Act.eval]) rfl Tryz.underlying9) rfl ?_
 simp only[nmA]
 refine Ac (v:=.bool false) (fun W=>Ag rfl rfl rfl (EF g.size 64 false hg _ _ W)) rfl ?_
 simp only[nmA]
 refine Ad (.bool false) ?_
 simp only[nmA]
 refine wpList_nil ?_
 ((iterate 7 go_step);refine wp_region_lit ?_)
 refine Ad (.string p) ?_
 simp only[nmA]
 refine Ah hM0 (args:=#[.string p]) (v:=.tuple #[pv4 D,.int .i64 (eD:Int)]) (rcf (enters_of Tryz.func10 rfl rfl)) (KD.out w) rfl fun W1 hM1=>?_
 simp only[nmA]
 refine Ad (.tuple #[pv4 D,.int .i64 (eD:Int)]) ?_
 simp only[nmA]
 refine Ad (pv4 D) ?_
 simp only[nmA]
 refine Ad (.int .i64 (eD:Int)) ?_
 simp only[nmA]
 refine At hM1 (ob:=.cells z16 39 (0,0)) (fun W=>Ab rfl (Ew W)) rfl fun b1 W2 hM2=>?_
 simp only[nmA]
 refine Av hM2 0 (cs:=((pc4 D))) rfl rfl rfl rfl AS rfl (Cf _) rfl rfl fun W3 hM3=>?_
 simp only[nm2,nm3] at hM3
 refine Ad (.int .i64 (eD:Int)) ?_
 simp only[nmA]
 refine wpList_nil ?_
 ((iterate 4 go_step);refine wp_region_lit ?_)
 refine Ad (.int .i64 (eD:Int)) ?_
 simp only[nmA]
 obtain⟨c1,hc1⟩:=exza (!decide (eD=0))
 refine Ac (v:=.bool c1) (fun W=>Ag rfl rfl rfl (by rw[hc1];exact FZ eD _ _ W)) rfl ?_
 simp only[nmA]
 refine wpList_nil ?_
 cases c1
 ·skip
  ((iterate 7 go_step);refine wp_region_lit ?_)
  refine Ad (.string g) ?_
  simp only[nmA]
  refine Ac (v:=.string G1) (fun W=>e1 ▸ BG W rfl (by simp[Act.eval]) (En (j:=32) W Tryz.underlying9 (by rw[hH];decide))) rfl ?_
  simp only[nmA]
  refine Ad (.string G1) ?_
  simp only[nmA]
  refine wpList_nil ?_
  ((iterate 3 go_step);refine wp_region_lit ?_)
  refine Ad (.string g) ?_
  simp only[nmA]
  refine Ac (v:=.string G2) (fun W=>e2 ▸ BG W rfl (by simp[Act.eval]) (GQ (i:=32) W Tryz.underlying9 (by rw[hH];decide))) rfl ?_
  simp only[nmA]
  refine Ah hM3 (args:=#[.string G2]) (v:=.tuple #[Aa z,.int .i64 (eS:Int)]) (rcf (enters_of Tryz.func48 rfl rfl)) (KS.out W3) rfl fun W4 hM4=>?_
  simp only[nmA]
  refine Ad (.tuple #[Aa z,.int .i64 (eS:Int)]) ?_
  simp only[nmA]
  refine Ad (Aa z) ?_
  simp only[nmA]
  refine Ad (.int .i64 (eS:Int)) ?_
  simp only[nmA]
  refine At hM4 (ob:=.cells z4 24 (0,0)) (fun W=>Ab rfl (Gb W)) rfl fun b2 W5 hM5=>?_
  simp only[nmA]
  refine Av hM5 0 (cs:=(elR z)) rfl rfl rfl rfl Bx rfl (Ay z) rfl rfl fun W6 hM6=>?_
  simp only[nm2,nm3] at hM6
  refine Ad (.int .i64 (eS:Int)) ?_
  simp only[nmA]
  refine wpList_nil ?_
  ((iterate 4 go_step);refine wp_region_lit ?_)
  refine Ad (.int .i64 (eS:Int)) ?_
  simp only[nmA]
  obtain⟨c2,hc2⟩:=exza (!decide (eS=0))
  refine Ac (v:=.bool c2) (fun W=>Ag rfl rfl rfl (by rw[hc2];exact FZ eS _ _ W)) rfl ?_
  simp only[nmA]
  refine wpList_nil ?_
  cases c2
  ·skip
   ((iterate 7 go_step);refine wp_region_lit ?_)
   refine Ad (.slice a2 l2 c2) ?_
   simp only[nmA]
   refine GA (args:=#[.slice a2 l2 c2]) (rcf (enters_of Tryz.func39 rfl rfl)) (KNM.out W6 (hs2.below hM6.below)) rfl ?_
   rintro e W7 ⟨t3,t1,rfl,hN,hb⟩
   refine⟨_,rfl,?_⟩
   have hM7:=hM6.calls hb
   simp only[nmA]
   have hMs:=Mem.start W7
   refine Ad (.string G1) ?_
   simp only[nmA]
   refine Ad (.string p) ?_
   simp only[nmA]
   refine FN hMs (f:=fun b=>.slice (some ⟨b,0,none⟩) 2 2) (ob:=.cells (#[.string G1,.string p]) 9 (0,0)) (fun W=>Ax rfl (by simp[Act.eval]) (eu G1 p W)) rfl fun b3 W8 hM8=>?_
   simp only[nmA]
   refine Ah hM8 (args:=#[.slice (some ⟨b3,0,none⟩) 2 2,.pointer (some ⟨t3,0,none⟩),.pointer (some ⟨t1,0,none⟩)]) (v:=Aa N2) (fun W=>Ca W (enters_of Tryz.func87 rfl rfl) rfl rfl (by simp[Act.eval];rfl) rfl) (eN2 ▸ JK t3 t1 (some ⟨b3,0,none⟩) a2 2 c2 [G1.data.toList,p.data.toList] ss2 l2 D2 W8 (hN.below hM8.below) (I8 [G1,p] (hM8.get 0 rfl)) (by simp) hl2 hn_D2 hD2) rfl fun W9 hM9=>?_
   simp only[nmA]
   refine At hM9 (ob:=.cells z4 24 (0,0)) (fun W=>Ab rfl (Gb W)) rfl fun b4 W10 hM10=>?_
   simp only[nmA]
   refine Av hM10 0 (cs:=(elR N2)) rfl rfl rfl rfl Bx rfl (Ay N2) rfl rfl fun W11 hM11=>?_
   simp only[nm2,nm3] at hM11
   refine wpList_nil ?_
   ((iterate 4 go_step);refine Ak 8 HMIX.out (by decide) (by kernel_rfl) (by kernel_rfl) ?_)
   refine Ao hM11 0 (v:=Aa N2) rfl rfl rfl rfl Bx rfl rfl ?_;simp only[nmA]
   refine Lc (v:=pv4 D) (fun W hW=>CS (cs:=((pc4 D))) (sub:=((pc4 D))) rfl rfl ((hM11.calls hW).old (hM7.get 1 rfl)) rfl AS) rfl rfl ?_;simp only[nmA]
   refine Am (args:=#[pv4 D]) (v:=pv4 ((G9 D))) (rcf (enters_of Tryz.func35 rfl rfl)) (fun W _=>Xy oD W) rfl rfl ?_;simp only[nmA]
   refine Lc (v:=Aa z) (fun W hW=>CS (cs:=(elR z)) (sub:=(elR z)) rfl rfl ((hM11.calls hW).old (hM7.get 0 rfl)) rfl Bx) rfl rfl ?_;simp only[nmA]
   refine Am (args:=#[Aa N2,pv4 ((G9 D)),Aa z]) (v:=pv4 B) (rcf (enters_of Tryz.func49 rfl rfl)) (fun W _=>KB.out W) rfl rfl ?_;simp only[nmA]
   refine Am (args:=#[pv4 B]) (v:=.string EB) (rcf (enters_of Tryz.func40 rfl rfl)) (fun W _=>KE.out W) rfl rfl ?_;simp only[nmA]
   refine AM (.string G1) ?_;simp only[nmA]
   obtain⟨c3,hc3⟩:=exza (!decide (EB=G1))
   refine As (v:=.bool c3) (fun W=>Ag rfl rfl rfl (by rw[hc3];exact T4 EB G1 _ rfl _ _ W)) rfl rfl ?_;simp only[nmA]
   refine AO fun d os=>?_
   refine Az fun hap=>?_
   have hM12:=hM11.calls (below_regrown W11 d os)
   clear hap 
   generalize grow (redrawn W11 d) os=W12 at hM12 ⊢
   refine wpAny_done (by kernel_rfl) ?_ _
   cases c3
   ·skip
    ((iterate 7 go_step);refine wp_region_lit ?_)
    refine Ad (.int .i64 0) ?_
    simp only[nmA]
    refine wpList_nil ?_
    have hK:=hM7.calls hM12.below
    ((iterate 3 go_step);refine bodyPost_ret (v:=.int .i64 0) (AY Tryz.results16 rfl) rfl ⟨?_,hK.below⟩)
    exact by rw[hR,← hc1,← hc2,← hc3];rfl
   ·skip
    ((iterate 4 go_step);refine wp_region_lit ?_)
    refine Ad (.int .i64 21) ?_
    simp only[nmA]
    refine wpList_nil ?_
    have hK:=hM7.calls hM12.below
    ((iterate 4 go_step);refine bodyPost_ret (v:=.int .i64 21) (AY Tryz.results16 rfl) rfl ⟨?_,hK.below⟩)
    exact by rw[hR,← hc1,← hc2,← hc3];rfl
  ·skip
   ((iterate 4 go_step);refine wp_region_lit ?_)
   refine Ad (.int .i64 (eS:Int)) ?_
   simp only[nmA]
   refine Ad (.int .i64 (eS:Int)) ?_
   simp only[nmA]
   refine wpList_nil ?_
   ((iterate 4 go_step);refine bodyPost_ret (v:=.int .i64 (eS:Int)) (AY Tryz.results16 rfl) rfl ⟨?_,hM6.below⟩)
   exact by rw[hR,← hc1,← hc2];rfl
 ·skip
  ((iterate 4 go_step);refine wp_region_lit ?_)
  refine Ad (.int .i64 (eD:Int)) ?_
  simp only[nmA]
  refine Ad (.int .i64 (eD:Int)) ?_
  simp only[nmA]
  refine wpList_nil ?_
  ((iterate 4 go_step);refine bodyPost_ret (v:=.int .i64 (eD:Int)) (AY Tryz.results16 rfl) rfl ⟨?_,hM3.below⟩)
  exact by rw[hR,← hc1];rfl
theorem Li (n:Nat):(!decide (n=0))=(n != 0):=by
 rw[Bool.eq_iff_iff]
 simp
theorem Wh (p g m:ByteArray) (hp:(p.size != 32)=true) (w:World):Calls Tryz.prog 17 #[.string p,.string g,.string m] w fun E w'=>E=.returned (.int .i64 1)∧Below w.heap.size w w':=by
 have HMIX:=Lh (show Tryz.prog.follows .mixedOrders=true by kernel_rfl)
 go_enter Tryz.func17,Tryz.ntmps17
 have hM0:=Mem.start w
 (go_step;go_step;refine wp_region_lit ?_)
 refine Ad (.int .i64 0) ?_
 simp only[nmA]
 refine wpList_nil ?_
 ((iterate 4 go_step);refine wp_region_lit ?_)
 refine Ad (.string p) ?_
 simp only[nmA]
 refine Ac (v:=.int .i64 (p.size:Int)) (fun W=>A8 W rfl (by simp[Act.eval]) rfl Tryz.underlying9) rfl ?_
 simp only[nmA]
 refine Ac (v:=.bool true) (fun W=>Ag rfl rfl rfl (EF p.size 32 true hp _ _ W)) rfl ?_
 simp only[nmA]
 refine Ad (.bool true) ?_
 simp only[nmA]
 refine Dg rfl ?_
 simp only[nmA]
 refine Dg rfl ?_
 simp only[nmA]
 refine Dg rfl ?_
 simp only[nmA]
 refine Ad (.bool true) ?_
 simp only[nmA]
 refine wpList_nil ?_
 ((iterate 4 go_step);refine wp_region_lit ?_)
 refine Ad (.int .i64 1) ?_
 simp only[nmA]
 refine wpList_nil ?_
 ((iterate 4 go_step);refine bodyPost_ret (v:=.int .i64 1) (AY Tryz.results17 rfl) rfl ⟨?_,hM0.below⟩)
 exact rfl
theorem VT (p g m:ByteArray) (hp:(p.size != 32)=false) (hg:(g.size != 64)=true) (w:World):Calls Tryz.prog 17 #[.string p,.string g,.string m] w fun E w'=>E=.returned (.int .i64 1)∧Below w.heap.size w w':=by
 have HMIX:=Lh (show Tryz.prog.follows .mixedOrders=true by kernel_rfl)
 go_enter Tryz.func17,Tryz.ntmps17
 have hM0:=Mem.start w
 (go_step;go_step;refine wp_region_lit ?_)
 refine Ad (.int .i64 0) ?_
 simp only[nmA]
 refine wpList_nil ?_
 ((iterate 4 go_step);refine wp_region_lit ?_)
 refine Ad (.string p) ?_
 simp only[nmA]
 refine Ac (v:=.int .i64 (p.size:Int)) (fun W=>A8 W rfl (by simp[Act.eval]) rfl Tryz.underlying9) rfl ?_
 simp only[nmA]
 refine Ac (v:=.bool false) (fun W=>Ag rfl rfl rfl (EF p.size 32 false hp _ _ W)) rfl ?_
 simp only[nmA]
 refine Ad (.bool false) ?_
 simp only[nmA]
 refine Ad (.string g) ?_
 simp only[nmA]
 refine Ac (v:=.int .i64 (g.size:Int)) (fun W=>A8 W rfl (by simp[Act.eval]) rfl Tryz.underlying9) rfl ?_
 simp only[nmA]
 refine Ac (v:=.bool true) (fun W=>Ag rfl rfl rfl (EF g.size 64 true hg _ _ W)) rfl ?_
 simp only[nmA]
 refine Ad (.bool true) ?_
 simp only[nmA]
 refine wpList_nil ?_
 ((iterate 4 go_step);refine wp_region_lit ?_)
 refine Ad (.int .i64 1) ?_
 simp only[nmA]
 refine wpList_nil ?_
 ((iterate 4 go_step);refine bodyPost_ret (v:=.int .i64 1) (AY Tryz.results17 rfl) rfl ⟨?_,hM0.below⟩)
 exact rfl
theorem PW (p g m:ByteArray) (hp:(p.size != 32)=false) (hg:(g.size != 64)=false) (D:N3) (hH:g.size=64) (G1 G2:ByteArray) (e1:g.extract 0 32=G1) (e2:g.extract 32 g.size=G2) (z eD eS R:Nat) (hS:∀ {c2:Bool},c2=decide (eS=0)→true=!c2→eS=23) (KD:Hid (∀ w,Calls Tryz.prog 50 #[.string p] w fun E w'=>E=.returned (.tuple #[pv3 D,.int .i64 (eD:Int)])∧Below w.heap.size w w')) (KS:Hid (∀ w,Calls Tryz.prog 22 #[.string G2] w fun E w'=>E=.returned (Aa z)∧Below w.heap.size w w')) (KL:Hid (∀ w,Calls Tryz.prog 51 #[Aa z] w fun E w'=>E=.returned (.bool (decide (eS=0)))∧Below w.heap.size w w')) {P:Pt} (oD:Ok3 D P) (T2 T3:ByteArray) (eT2:G1++p=T2) (eT3:T2++m=T3) (hz2:G1.size+p.size≤9223372036854775807) (hz3:T2.size+m.size≤9223372036854775807) (N2:Nat) (KN:Hid (∀ w,Calls Tryz.prog 44 #[.string T3] w fun E w'=>E=.returned (Aa N2)∧Below w.heap.size w w')) (B:N3) (KB:Hid (∀ w,Calls Tryz.prog 52 #[Aa N2,pv3 (YO D),Aa z] w fun E w'=>E=.returned (pv3 B)∧Below w.heap.size w w')) (EB:ByteArray) (KE:Hid (∀ w,Calls Tryz.prog 23 #[pv3 B] w fun E w'=>E=.returned (.string EB)∧Below w.heap.size w w')) (hR:R=bif !decide (eD=0) then eD else bif !decide (eS=0) then eS else bif !decide (EB=G1) then 21 else 0) (w:World):Calls Tryz.prog 17 #[.string p,.string g,.string m] w fun E w'=>E=.returned (.int .i64 (R:Int))∧Below w.heap.size w w':=by
 have HMIX:=Lh (show Tryz.prog.follows .mixedOrders=true by kernel_rfl)
 go_enter Tryz.func17,Tryz.ntmps17
 have hM0:=Mem.start w
 (go_step;go_step;refine wp_region_lit ?_)
 refine Ad (.int .i64 0) ?_
 simp only[nmA]
 refine wpList_nil ?_
 ((iterate 4 go_step);refine wp_region_lit ?_)
 refine Ad (.string p) ?_
 simp only[nmA]
 refine Ac (v:=.int .i64 (p.size:Int)) (fun W=>A8 W rfl (by simp[Act.eval]) rfl Tryz.underlying9) rfl ?_
 simp only[nmA]
 refine Ac (v:=.bool false) (fun W=>Ag rfl rfl rfl (EF p.size 32 false hp _ _ W)) rfl ?_
 simp only[nmA]
 refine Ad (.bool false) ?_
 simp only[nmA]
 refine Ad (.string g) ?_
 simp only[nmA]
 refine Ac (v:=.int .i64 (g.size:Int)) (fun W=>A8 W rfl (by simp[Act.eval]) rfl Tryz.underlying9) rfl ?_
 simp only[nmA]
 refine Ac (v:=.bool false) (fun W=>Ag rfl rfl rfl (EF g.size 64 false hg _ _ W)) rfl ?_
 simp only[nmA]
 refine Ad (.bool false) ?_
 simp only[nmA]
 refine wpList_nil ?_
 ((iterate 7 go_step);refine wp_region_lit ?_)
 refine Ad (.string p) ?_
 simp only[nmA]
 refine Ah hM0 (args:=#[.string p]) (v:=.tuple #[pv3 D,.int .i64 (eD:Int)]) (rcf (enters_of Tryz.func50 rfl rfl)) (KD.out w) rfl fun W1 hM1=>?_
 simp only[nmA]
 refine Ad (.tuple #[pv3 D,.int .i64 (eD:Int)]) ?_
 simp only[nmA]
 refine Ad (pv3 D) ?_
 simp only[nmA]
 refine Ad (.int .i64 (eD:Int)) ?_
 simp only[nmA]
 refine At hM1 (ob:=.cells z12 55 (0,0)) (fun W=>Ab rfl (FQ W)) rfl fun b1 W2 hM2=>?_
 simp only[nmA]
 refine Av hM2 0 (cs:=((rpL D.1 D.2.1 D.2.2).toArray)) rfl rfl rfl rfl Cn rfl (DG _ _ _) rfl rfl fun W3 hM3=>?_
 simp only[nm2,nm3] at hM3
 refine Ad (.int .i64 (eD:Int)) ?_
 simp only[nmA]
 refine wpList_nil ?_
 ((iterate 4 go_step);refine wp_region_lit ?_)
 refine Ad (.int .i64 (eD:Int)) ?_
 simp only[nmA]
 obtain⟨c1,hc1⟩:=exza ((eD != 0))
 refine Ac (v:=.bool c1) (fun W=>Ag rfl rfl rfl (by rw[hc1];exact EF eD 0 _ rfl _ _ W)) rfl ?_
 simp only[nmA]
 refine wpList_nil ?_
 cases c1
 ·skip
  ((iterate 7 go_step);refine wp_region_lit ?_)
  refine Ad (.string g) ?_
  simp only[nmA]
  refine Ac (v:=.string G2) (fun W=>e2 ▸ BG W rfl (by simp[Act.eval]) (GQ (i:=32) W Tryz.underlying9 (by rw[hH];decide))) rfl ?_
  simp only[nmA]
  refine Ah hM3 (args:=#[.string G2]) (v:=Aa z) (rcf (enters_of Tryz.func22 rfl rfl)) (KS.out W3) rfl fun W4 hM4=>?_
  simp only[nmA]
  refine At hM4 (ob:=.cells z4 23 (0,0)) (fun W=>Ab rfl (Cr W)) rfl fun b2 W5 hM5=>?_
  simp only[nmA]
  refine Av hM5 0 (cs:=(elR z)) rfl rfl rfl rfl AG rfl (Ay z) rfl rfl fun W6 hM6=>?_
  simp only[nm2,nm3] at hM6
  refine wpList_nil ?_
  ((iterate 4 go_step);refine wp_region_lit ?_)
  refine AD hM6 0 (v:=Aa z) rfl rfl rfl rfl AG rfl ?_
  simp only[nmA]
  obtain⟨c2,hc2⟩:=exza (decide (eS=0))
  have KLc:=KL
  rw[← hc2] at KLc
  refine Ah hM6 (args:=#[Aa z]) (v:=.bool c2) (rcf (enters_of Tryz.func51 rfl rfl)) (KLc.out W6) rfl fun W7 hM7=>?_
  simp only[nmA]
  obtain⟨c3,hc3⟩:=exza (!c2)
  refine Ac (v:=.bool c3) (fun W=>by rw[hc3];exact Df W rfl rfl rfl) rfl ?_
  simp only[nmA]
  refine wpList_nil ?_
  cases c3
  ·skip
   ((iterate 7 go_step);refine wp_region_lit ?_)
   refine Ad (.string g) ?_
   simp only[nmA]
   refine Ac (v:=.string G1) (fun W=>e1 ▸ BG W rfl (by simp[Act.eval]) (En (j:=32) W Tryz.underlying9 (by rw[hH];decide))) rfl ?_
   simp only[nmA]
   refine Ad (.string p) ?_
   simp only[nmA]
   refine Ac (v:=.string T2) (fun W=>Ag rfl rfl rfl (eT2 ▸ FE _ _ W hz2)) rfl ?_
   simp only[nmA]
   refine Ad (.string m) ?_
   simp only[nmA]
   refine Ac (v:=.string T3) (fun W=>Ag rfl rfl rfl (eT3 ▸ FE _ _ W hz3)) rfl ?_
   simp only[nmA]
   refine Ah hM7 (args:=#[.string T3]) (v:=Aa N2) (rcf (enters_of Tryz.func44 rfl rfl)) (KN.out W7) rfl fun W8 hM8=>?_
   simp only[nmA]
   refine At hM8 (ob:=.cells z4 23 (0,0)) (fun W=>Ab rfl (Cr W)) rfl fun b3 W9 hM9=>?_
   simp only[nmA]
   refine Av hM9 0 (cs:=(elR N2)) rfl rfl rfl rfl AG rfl (Ay N2) rfl rfl fun W10 hM10=>?_
   simp only[nm2,nm3] at hM10
   refine wpList_nil ?_
   ((iterate 4 go_step);refine Ak 9 HMIX.out (by decide) (by kernel_rfl) (by kernel_rfl) ?_)
   refine Ao hM10 0 (v:=Aa N2) rfl rfl rfl rfl AG rfl rfl ?_;simp only[nmA]
   refine Ao hM10 2 (v:=pv3 D) rfl rfl rfl rfl Cn rfl rfl ?_;simp only[nmA]
   refine Am (args:=#[pv3 D]) (v:=pv3 ((YO D))) (rcf (enters_of Tryz.func53 rfl rfl)) (fun W _=>ic oD W) rfl rfl ?_;simp only[nmA]
   refine Ao hM10 1 (v:=Aa z) rfl rfl rfl rfl AG rfl rfl ?_;simp only[nmA]
   refine Am (args:=#[Aa N2,pv3 ((YO D)),Aa z]) (v:=pv3 B) (rcf (enters_of Tryz.func52 rfl rfl)) (fun W _=>KB.out W) rfl rfl ?_;simp only[nmA]
   refine Am (args:=#[pv3 B]) (v:=.string EB) (rcf (enters_of Tryz.func23 rfl rfl)) (fun W _=>KE.out W) rfl rfl ?_;simp only[nmA]
   refine AM (.string g) ?_;simp only[nmA]
   refine As (v:=.string G1) (fun W=>e1 ▸ BG W rfl (by simp[Act.eval]) (En (j:=32) W Tryz.underlying9 (by rw[hH];decide))) rfl rfl ?_;simp only[nmA]
   obtain⟨c4,hc4⟩:=exza (!decide (EB=G1))
   refine As (v:=.bool c4) (fun W=>Ag rfl rfl rfl (by rw[hc4];exact T4 EB G1 _ rfl _ _ W)) rfl rfl ?_;simp only[nmA]
   refine AO fun d os=>?_
   refine Az fun hap=>?_
   have hM11:=hM10.calls (below_regrown W10 d os)
   clear hap 
   generalize grow (redrawn W10 d) os=W11 at hM11 ⊢
   refine wpAny_done (by kernel_rfl) ?_ _
   cases c4
   ·skip
    ((iterate 7 go_step);refine wp_region_lit ?_)
    refine Ad (.int .i64 0) ?_
    simp only[nmA]
    refine wpList_nil ?_
    ((iterate 3 go_step);refine bodyPost_ret (v:=.int .i64 0) (AY Tryz.results17 rfl) rfl ⟨?_,hM11.below⟩)
    exact by rw[hR,show (!decide (eD=0))=false by rw[Li];exact hc1.symm,← hc2,← hc3,← hc4];rfl
   ·skip
    ((iterate 4 go_step);refine wp_region_lit ?_)
    refine Ad (.int .i64 21) ?_
    simp only[nmA]
    refine wpList_nil ?_
    ((iterate 4 go_step);refine bodyPost_ret (v:=.int .i64 21) (AY Tryz.results17 rfl) rfl ⟨?_,hM11.below⟩)
    exact by rw[hR,show (!decide (eD=0))=false by rw[Li];exact hc1.symm,← hc2,← hc3,← hc4];rfl
  ·skip
   ((iterate 4 go_step);refine wp_region_lit ?_)
   refine Ad (.int .i64 23) ?_
   simp only[nmA]
   refine wpList_nil ?_
   ((iterate 4 go_step);refine bodyPost_ret (v:=.int .i64 23) (AY Tryz.results17 rfl) rfl ⟨?_,hM7.below⟩)
   exact by rw[hR,show (!decide (eD=0))=false by rw[Li];exact hc1.symm,← hc2,← hc3,hS hc2 hc3];rfl
 ·skip
  ((iterate 4 go_step);refine wp_region_lit ?_)
  refine Ad (.int .i64 (eD:Int)) ?_
  simp only[nmA]
  refine Ad (.int .i64 (eD:Int)) ?_
  simp only[nmA]
  refine wpList_nil ?_
  ((iterate 4 go_step);refine bodyPost_ret (v:=.int .i64 (eD:Int)) (AY Tryz.results17 rfl) rfl ⟨?_,hM3.below⟩)
  exact by rw[hR,show (!decide (eD=0))=true by rw[Li];exact hc1.symm];rfl
end Go.Proofs.YtnaldciakclccaaGreat
