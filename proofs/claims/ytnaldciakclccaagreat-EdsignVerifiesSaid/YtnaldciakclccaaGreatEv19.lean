/- Lemmas of this proof. -/
import Derived.Deep.DeepCutAuto
import Derived.Lib.QuietBelow
import Derived.Test.YtnaldciakclccaaGreatEv17
import Derived.Test.YtnaldciakclccaaGreatEv18
import Derived.Test.YtnaldciakclccaaGreatEv15
import Derived.Test.YtnaldciakclccaaGreatEv02
import Derived.Test.YtnaldciakclccaaGreatEv03
import Derived.Test.YtnaldciakclccaaGreatEv14
import Derived.Test.YtnaldciakclccaaGreatEv04
namespace Go.Proofs.YtnaldciakclccaaGreat
set_option maxRecDepth 20000
set_option maxHeartbeats 8000000
set_option linter.unusedSimpArgs false
set_option linter.unusedVariables false
open Go.RowKit Go.Sort
theorem ZQ (k:Nat) (a:N4) (W:World):(Instr.build 139 #[(0,Aa k),(1,pv4 a)]).run Tryz.prog W=.ok (.agg (tmL k a).toArray) W:=by
 kernel_rfl
theorem eU (k:Nat) (a:N4) (W:World):(Instr.buildSlice 184 1 #[(0,.agg (tmL k a).toArray)]).run Tryz.prog W=.ok (.slice (some ⟨W.heap.size,0,none⟩) 1 1) (W.alloc (.cells (tmL k a).toArray 139 (0,0))):=by
 kernel_rfl
theorem fx (k l:Nat) (a b:N4) (W:World):(Instr.buildSlice 184 2 #[(0,.agg (tmL k a).toArray),(1,.agg (tmL l b).toArray)]).run Tryz.prog W=.ok (.slice (some ⟨W.heap.size,0,none⟩) 2 2) (W.alloc (.cells (tmL k a++tmL l b).toArray 139 (0,0))):=by
 kernel_rfl
theorem V3 {a:N4} {p:Pt} (ha:Ok4 a p) (k:Nat) (hk:k<B64^4):∃ R,R=Hn (F8 k a) (Eo k) Cu∧Ok4 R (AB k p):=⟨_,rfl,Zf k _ ha (GV k _ (Nat.le_refl _))⟩
theorem Xr {a b:N4} {p q:Pt} (ha:Ok4 a p) (hb:Ok4 b q) (k l:Nat) (hk:k<B64^4) (hl:l<B64^4):∃ R,R=Hn (Gc k l a b) (max (Eo k) (Eo l)) Cu∧Ok4 R (Bj (AB k p) (AB l q)):=⟨_,rfl,Zo k l _ ha hb (GV k _ (Nat.le_max_left _ _)) (GV l _ (Nat.le_max_right _ _))⟩
theorem Sv {a R:N4} {p:Pt} (ha:Ok4 a p) (k:Nat) (hk:k<B64^4) (hR:R=Hn (F8 k a) (Eo k) Cu) (w:World):Calls Tryz.prog 85 #[Aa k,pv4 a] w fun E w'=>E=.returned (pv4 R)∧Below w.heap.size w w':=by
 have KS:=Lh (fun g w hg=>Vc ha k hk g w hg)
 rw[← hR] at KS
 clear hR
 have HMIX:=Lh (show Tryz.prog.follows .mixedOrders=true by kernel_rfl)
 go_enter Tryz.func85,Tryz.ntmps85
 have hM0:=Mem.start w
 (go_step;go_step;refine wp_region_lit ?_)
 refine At hM0 (ob:=.cells (elR k) 24 (0,0)) (fun W=>AK rfl rfl (Nn k W)) rfl fun b1 W1 hM1=>?_
 simp only[nmA]
 refine At hM1 (ob:=.cells ((pc4 a)) 39 (0,0)) (fun W=>AK rfl rfl (TY _ W)) rfl fun b2 W2 hM2=>?_
 simp only[nmA]
 refine At hM2 (ob:=.cells z16 39 (0,0)) (fun W=>Ab rfl (Ew W)) rfl fun b3 W3 hM3=>?_
 simp only[nmA]
 refine wpList_nil ?_
 ((iterate 3 go_step);refine wp_region_lit ?_)
 refine AD hM3 2 (v:=Aa k) rfl rfl rfl rfl Bx rfl ?_
 simp only[nmA]
 refine AD hM3 1 (v:=pv4 a) rfl rfl rfl rfl AS rfl ?_
 simp only[nmA]
 refine Ac (v:=.agg (tmL k a).toArray) (fun W=>Bq rfl (by simp[Act.eval]) (ZQ k a W)) rfl ?_
 simp only[nmA]
 refine FN hM3 (f:=fun b=>.slice (some ⟨b,0,none⟩) 1 1) (ob:=.cells ((tmL k a).toArray) 139 (0,0)) (fun W=>Ax rfl (by simp[Act.eval]) (eU k a W)) rfl fun b4 W4 hM4=>?_
 simp only[nmA]
 refine Ah hM4 (args:=#[.slice (some ⟨b4,0,none⟩) 1 1]) (v:=pv4 R) (rcf (enters_of Tryz.func111 rfl rfl)) (KS.out b4 W4 (hM4.get 0 rfl)) rfl fun W5 hM5=>?_
 simp only[nmA]
 refine Av hM5 1 (cs:=((pc4 R))) rfl rfl rfl rfl AS rfl (Cf _) rfl rfl fun W6 hM6=>?_
 simp only[nm2,nm3] at hM6
 refine wpList_nil ?_
 ((iterate 3 go_step);refine bodyPost_ret (v:=pv4 R) (Ap Tryz.results85 rfl (hM6.load 1 rfl AS)) rfl ⟨?_,hM6.below⟩)
 exact rfl
theorem Yo {a:N4} {p:Pt} (ha:Ok4 a p) (k:Nat) (hk:k<B64^4):∃ R:N4,Ok4 R (AB k p)∧Hid (∀ w,Calls Tryz.prog 85 #[Aa k,pv4 a] w fun E w'=>E=.returned (pv4 R)∧Below w.heap.size w w'):=by
 obtain⟨R,hR,oR⟩:=V3 ha k hk
 exact⟨R,oR,fun w=>Sv ha k hk hR w⟩
theorem VE (R:N4) (k:Nat) (KR:Hid (∀ w,Calls Tryz.prog 85 #[Aa k,pv4 Ih] w fun E w'=>E=.returned (pv4 R)∧Below w.heap.size w w')) (w:World):Calls Tryz.prog 41 #[Aa k] w fun E w'=>E=.returned (pv4 R)∧Below w.heap.size w w':=by
 have HMIX:=Lh (show Tryz.prog.follows .mixedOrders=true by kernel_rfl)
 go_enter Tryz.func41,Tryz.ntmps41
 have hM0:=Mem.start w
 (go_step;go_step;refine wp_region_lit ?_)
 refine At hM0 (ob:=.cells (elR k) 24 (0,0)) (fun W=>AK rfl rfl (Nn k W)) rfl fun b1 W1 hM1=>?_
 simp only[nmA]
 refine At hM1 (ob:=.cells z16 39 (0,0)) (fun W=>Ab rfl (Ew W)) rfl fun b2 W2 hM2=>?_
 simp only[nmA]
 refine wpList_nil ?_
 ((iterate 3 go_step);refine Ak 3 HMIX.out (by decide) (by kernel_rfl) (by kernel_rfl) ?_)
 refine Ao hM2 1 (v:=Aa k) rfl rfl rfl rfl Bx rfl rfl ?_;simp only[nmA]
 refine Am (args:=#[]) (v:=pv4 Ih) (rcf (enters_of Tryz.func96 rfl rfl)) (fun W _=>N8 W) rfl rfl ?_;simp only[nmA]
 refine Am (args:=#[Aa k,pv4 Ih]) (v:=pv4 R) (rcf (enters_of Tryz.func85 rfl rfl)) (fun W _=>KR.out W) rfl rfl ?_;simp only[nmA]
 refine AO fun d os=>?_
 refine Az fun hap=>?_
 have hM3:=hM2.calls (below_regrown W2 d os)
 clear hap 
 generalize grow (redrawn W2 d) os=W3 at hM3 ⊢
 change wpAny _ _ _ _ 1 _ _ _
 refine A7 (n:=3) (by kernel_rfl) rfl hM3 0 (cs:=((pc4 R))) rfl rfl rfl rfl AS rfl (Cf _) rfl rfl fun W4 hM4=>?_
 simp only[nm2,nm3] at hM4
 refine wpAny_done (by kernel_rfl) ?_ _
 ((iterate 3 go_step);refine bodyPost_ret (v:=pv4 R) (Ap Tryz.results41 rfl (hM4.load 0 rfl AS)) rfl ⟨?_,hM4.below⟩)
 exact rfl
theorem UC (k:Nat) (hk:k<B64^4):∃ R:N4,Ok4 R (AB k BD)∧Hid (∀ w,Calls Tryz.prog 41 #[Aa k] w fun E w'=>E=.returned (pv4 R)∧Below w.heap.size w w'):=by
 obtain⟨R,oR,KR⟩:=Yo MF k hk
 exact⟨R,oR,fun w=>VE R k KR w⟩
theorem VK {a R:N4} {p:Pt} (ha:Ok4 a p) (k l:Nat) (hk:k<B64^4) (hl:l<B64^4) (hR:R=Hn (Gc k l a Ih) (max (Eo k) (Eo l)) Cu) (w:World):Calls Tryz.prog 49 #[Aa k,pv4 a,Aa l] w fun E w'=>E=.returned (pv4 R)∧Below w.heap.size w w':=by
 have KS:=Lh (fun g w hg=>Xb ha MF k l hk hl g w hg)
 rw[← hR] at KS
 clear hR
 have HMIX:=Lh (show Tryz.prog.follows .mixedOrders=true by kernel_rfl)
 go_enter Tryz.func49,Tryz.ntmps49
 have hM0:=Mem.start w
 (go_step;go_step;refine wp_region_lit ?_)
 refine At hM0 (ob:=.cells (elR k) 24 (0,0)) (fun W=>AK rfl rfl (Nn k W)) rfl fun b1 W1 hM1=>?_
 simp only[nmA]
 refine At hM1 (ob:=.cells ((pc4 a)) 39 (0,0)) (fun W=>AK rfl rfl (TY _ W)) rfl fun b2 W2 hM2=>?_
 simp only[nmA]
 refine At hM2 (ob:=.cells (elR l) 24 (0,0)) (fun W=>AK rfl rfl (Nn l W)) rfl fun b3 W3 hM3=>?_
 simp only[nmA]
 refine At hM3 (ob:=.cells z16 39 (0,0)) (fun W=>Ab rfl (Ew W)) rfl fun b4 W4 hM4=>?_
 simp only[nmA]
 refine wpList_nil ?_
 ((iterate 3 go_step);refine Ak 8 HMIX.out (by decide) (by kernel_rfl) (by kernel_rfl) ?_)
 refine Ao hM4 3 (v:=Aa k) rfl rfl rfl rfl Bx rfl rfl ?_;simp only[nmA]
 refine Ao hM4 2 (v:=pv4 a) rfl rfl rfl rfl AS rfl rfl ?_;simp only[nmA]
 refine As (v:=.agg (tmL k a).toArray) (fun W=>Bq rfl (by simp[Act.eval]) (ZQ k a W)) rfl rfl ?_;simp only[nmA]
 refine Ao hM4 1 (v:=Aa l) rfl rfl rfl rfl Bx rfl rfl ?_;simp only[nmA]
 refine Am (args:=#[]) (v:=pv4 Ih) (rcf (enters_of Tryz.func96 rfl rfl)) (fun W _=>N8 W) rfl rfl ?_;simp only[nmA]
 refine As (v:=.agg (tmL l Ih).toArray) (fun W=>Bq rfl (by simp[Act.eval]) (ZQ l Ih W)) rfl rfl ?_;simp only[nmA]
 refine AX (n:=2) (L:=(tmL k a++tmL l Ih).toArray) (T:=139) (fun W=>Ax rfl (by simp[Act.eval]) (fx k l a Ih W)) rfl rfl ?_;simp only[List.nil_append,List.cons_append]
 refine A9 6 13 (v:=pv4 R) rfl rfl (fun _=>rfl) (fun b W=>AR W (enters_of Tryz.func111 rfl rfl) rfl (by simp[Act.eval,Act.put])) (fun b W h=>KS.out b W h) ?_;simp only[nmA]
 refine AO fun d os=>?_
 refine Bb (t:=13) rfl fun s6=>?_
 refine Az fun hap=>?_
 simp only[nmA] at hap ⊢
 have hM5:=hM4.calls (below_regrown W4 d os)
 clear hap 
 generalize grow (redrawn W4 d) os=W5 at hM5 ⊢
 change wpAny _ _ _ _ 1 _ _ _
 refine A7 (n:=8) (by kernel_rfl) rfl hM5 0 (cs:=((pc4 R))) rfl rfl rfl rfl AS rfl (Cf _) rfl rfl fun W6 hM6=>?_
 simp only[nm2,nm3] at hM6
 refine wpAny_done (by kernel_rfl) ?_ _
 ((iterate 3 go_step);refine bodyPost_ret (v:=pv4 R) (Ap Tryz.results49 rfl (hM6.load 0 rfl AS)) rfl ⟨?_,hM6.below⟩)
 exact rfl
theorem MG {a:N4} {p:Pt} (ha:Ok4 a p) (k l:Nat) (hk:k<B64^4) (hl:l<B64^4):∃ R:N4,Ok4 R (Bj (AB k p) (AB l BD))∧Hid (∀ w,Calls Tryz.prog 49 #[Aa k,pv4 a,Aa l] w fun E w'=>E=.returned (pv4 R)∧Below w.heap.size w w'):=by
 obtain⟨R,hR,oR⟩:=Xr ha MF k l hk hl
 exact⟨R,oR,fun w=>VK ha k l hk hl hR w⟩
theorem PV {q:N3} {p:Pt} (hq:Ok3 q p) (k:Nat) (hk:k<B64^4) (w:World):Calls Tryz.prog 24 #[Aa k,pv3 q] w fun E w'=>E=.returned (pv3 (tms k q 256))∧Below w.heap.size w w':=by
 have HMIX:=Lh (show Tryz.prog.follows .mixedOrders=true by kernel_rfl)
 go_enter Tryz.func24,Tryz.ntmps24
 have hM0:=Mem.start w
 (go_step;go_step;refine wp_region_lit ?_)
 refine At hM0 (ob:=.cells (elR k) 23 (0,0)) (fun W=>AK rfl rfl (Jr k W)) rfl fun b1 W1 hM1=>?_
 simp only[nmA]
 refine At hM1 (ob:=.cells ((rpL q.1 q.2.1 q.2.2).toArray) 55 (0,0)) (fun W=>AK rfl rfl (Kk _ _ _ W)) rfl fun b2 W2 hM2=>?_
 simp only[nmA]
 refine At hM2 (ob:=.cells z12 55 (0,0)) (fun W=>Ab rfl (FQ W)) rfl fun b3 W3 hM3=>?_
 simp only[nmA]
 refine wpList_nil ?_
 ((iterate 3 go_step);refine Ak 4 HMIX.out (by decide) (by kernel_rfl) (by kernel_rfl) ?_)
 refine Ao hM3 2 (v:=Aa k) rfl rfl rfl rfl AG rfl rfl ?_;simp only[nmA]
 refine Ao hM3 1 (v:=pv3 q) rfl rfl rfl rfl Cn rfl rfl ?_;simp only[nmA]
 refine Am (args:=#[]) (v:=Aa dN) (rcf (enters_of Tryz.func66 rfl rfl)) (fun W _=>Sh W) rfl rfl ?_;simp only[nmA]
 obtain⟨Q1,eQ1⟩:=exza (tms k q 256)
 have oQ1:=NP hq k hk
 rw[← eQ1] at oQ1
 have KQ1:=Lh (fun W=>WF k q W hk (Ok3.is hq))
 rw[← eQ1] at KQ1
 refine Am (args:=#[Aa k,pv3 q,Aa dN]) (v:=pv3 Q1) (rcf (enters_of Tryz.func65 rfl rfl)) (fun W _=>KQ1.out W) rfl rfl ?_;simp only[nmA]
 refine AO fun d os=>?_
 refine Az fun hap=>?_
 have hM4:=hM3.calls (below_regrown W3 d os)
 clear hap 
 generalize grow (redrawn W3 d) os=W4 at hM4 ⊢
 change wpAny _ _ _ _ 1 _ _ _
 refine A7 (n:=4) (by kernel_rfl) rfl hM4 0 (cs:=((rpL Q1.1 Q1.2.1 Q1.2.2).toArray)) rfl rfl rfl rfl Cn rfl (DG _ _ _) rfl rfl fun W5 hM5=>?_
 simp only[nm2,nm3] at hM5
 refine wpAny_done (by kernel_rfl) ?_ _
 ((iterate 3 go_step);refine bodyPost_ret (v:=pv3 Q1) (Ap Tryz.results24 rfl (hM5.load 0 rfl Cn)) rfl ⟨?_,hM5.below⟩)
 exact by rw[eQ1]
theorem Iy {q:N3} {p:Pt} (hq:Ok3 q p) (k:Nat) (hk:k<B64^4):∃ R:N3,Ok3 R (AB k p)∧Hid (∀ w,Calls Tryz.prog 24 #[Aa k,pv3 q] w fun E w'=>E=.returned (pv3 R)∧Below w.heap.size w w'):=⟨_,NP hq k hk,fun w=>PV hq k hk w⟩
theorem SF {q QK QL Q:N3} (k l:Nat) (KQK:Hid (∀ w,Calls Tryz.prog 24 #[Aa k,pv3 q] w fun E w'=>E=.returned (pv3 QK)∧Below w.heap.size w w')) (KQL:Hid (∀ w,Calls Tryz.prog 24 #[Aa l,pv3 (bX,bY,1)] w fun E w'=>E=.returned (pv3 QL)∧Below w.heap.size w w')) (KQ:Hid (∀ w,Calls Tryz.prog 116 #[pv3 QK,pv3 QL,Aa dN] w fun E w'=>E=.returned (pv3 Q)∧Below w.heap.size w w')) (w:World):Calls Tryz.prog 52 #[Aa k,pv3 q,Aa l] w fun E w'=>E=.returned (pv3 Q)∧Below w.heap.size w w':=by
 have HMIX:=Lh (show Tryz.prog.follows .mixedOrders=true by kernel_rfl)
 go_enter Tryz.func52,Tryz.ntmps52
 have hM0:=Mem.start w
 (go_step;go_step;refine wp_region_lit ?_)
 refine At hM0 (ob:=.cells (elR k) 23 (0,0)) (fun W=>AK rfl rfl (Jr k W)) rfl fun b1 W1 hM1=>?_
 simp only[nmA]
 refine At hM1 (ob:=.cells ((rpL q.1 q.2.1 q.2.2).toArray) 55 (0,0)) (fun W=>AK rfl rfl (Kk _ _ _ W)) rfl fun b2 W2 hM2=>?_
 simp only[nmA]
 refine At hM2 (ob:=.cells (elR l) 23 (0,0)) (fun W=>AK rfl rfl (Jr l W)) rfl fun b3 W3 hM3=>?_
 simp only[nmA]
 refine At hM3 (ob:=.cells z12 55 (0,0)) (fun W=>Ab rfl (FQ W)) rfl fun b4 W4 hM4=>?_
 simp only[nmA]
 refine wpList_nil ?_
 ((iterate 3 go_step);refine Ak 8 HMIX.out (by decide) (by kernel_rfl) (by kernel_rfl) ?_)
 refine Ao hM4 3 (v:=Aa k) rfl rfl rfl rfl AG rfl rfl ?_;simp only[nmA]
 refine Ao hM4 2 (v:=pv3 q) rfl rfl rfl rfl Cn rfl rfl ?_;simp only[nmA]
 refine Am (args:=#[Aa k,pv3 q]) (v:=pv3 QK) (rcf (enters_of Tryz.func24 rfl rfl)) (fun W _=>KQK.out W) rfl rfl ?_;simp only[nmA]
 refine Ao hM4 1 (v:=Aa l) rfl rfl rfl rfl AG rfl rfl ?_;simp only[nmA]
 refine Am (args:=#[]) (v:=pv3 ((bX,bY,1))) (rcf (enters_of Tryz.func25 rfl rfl)) (fun W _=>JO W) rfl rfl ?_;simp only[nmA]
 refine Am (args:=#[Aa l,pv3 ((bX,bY,1))]) (v:=pv3 QL) (rcf (enters_of Tryz.func24 rfl rfl)) (fun W _=>KQL.out W) rfl rfl ?_;simp only[nmA]
 refine Am (args:=#[]) (v:=Aa dN) (rcf (enters_of Tryz.func66 rfl rfl)) (fun W _=>Sh W) rfl rfl ?_;simp only[nmA]
 refine Am (args:=#[pv3 QK,pv3 QL,Aa dN]) (v:=pv3 Q) (rcf (enters_of Tryz.func116 rfl rfl)) (fun W _=>KQ.out W) rfl rfl ?_;simp only[nmA]
 refine AO fun d os=>?_
 refine Az fun hap=>?_
 have hM5:=hM4.calls (below_regrown W4 d os)
 clear hap 
 generalize grow (redrawn W4 d) os=W5 at hM5 ⊢
 change wpAny _ _ _ _ 1 _ _ _
 refine A7 (n:=8) (by kernel_rfl) rfl hM5 0 (cs:=((rpL Q.1 Q.2.1 Q.2.2).toArray)) rfl rfl rfl rfl Cn rfl (DG _ _ _) rfl rfl fun W6 hM6=>?_
 simp only[nm2,nm3] at hM6
 refine wpAny_done (by kernel_rfl) ?_ _
 ((iterate 3 go_step);refine bodyPost_ret (v:=pv3 Q) (Ap Tryz.results52 rfl (hM6.load 0 rfl Cn)) rfl ⟨?_,hM6.below⟩)
 exact rfl
theorem Xs {q:N3} {p:Pt} (hq:Ok3 q p) (k l:Nat) (hk:k<B64^4) (hl:l<B64^4):∃ R:N3,Ok3 R (Bj (AB k p) (AB l BD))∧Hid (∀ w,Calls Tryz.prog 52 #[Aa k,pv3 q,Aa l] w fun E w'=>E=.returned (pv3 R)∧Below w.heap.size w w'):=by
 obtain⟨QK,o1,K1⟩:=Iy hq k hk
 obtain⟨QL,o2,K2⟩:=Iy LU l hl
 exact⟨_,Pi o1 o2,fun w=>SF k l K1 K2 (fun w=>cE o1 o2 w) w⟩
theorem Nj (n:Nat):AB (n%LN) BD=AB n BD:=by
 have h:=Nat.div_add_mod n LN
 obtain⟨q,hq⟩:=exzb (n/LN)
 obtain⟨r,hr⟩:=exzb (n%LN)
 rw[hq,hr] at h
 rw[hr,← h,DX BD Dj,Nat.mul_comm,EW BD Dj,Ze,IY,Ez _ (Cc BD Dj r)]
section
variable {α:Type} [Lean.Grind.CommRing α]
end
theorem gF (k l s:Nat) (hs:(k+l)%LN=s):AB s BD=Bj (AB k BD) (AB l BD):=by
 rw[← hs,Nj,DX BD Dj]
open Go.RowKit
theorem ML (n:Nat):∀ k m,leN ((List.range k).map fun i=>UInt8.ofNat (n/256^(m+i)%256))=n/256^m%256^k
 | 0,m=>by simp[leN,Nat.mod_one]
 | k+1,m=>by
   rw[List.range_succ_eq_map,List.map_cons,List.map_map,leN]
   have h:=ML n k (m+1)
   have e:(fun i=>UInt8.ofNat (n/256^(m+i)%256)) ∘ Nat.succ=fun i=>UInt8.ofNat (n/256^(m+1+i)%256):=by
    funext i
    simp only[Function.comp]
    rw[show m+Nat.succ i=m+1+i by omega]
   rw[e,h,Nat.add_zero,UInt8.toNat_ofNat',show (256:Nat)^(k+1)=256*256^k by rw[Nat.pow_succ,Nat.mul_comm],Nat.mod_mul,Nat.pow_succ 256 m,← Nat.div_div_eq_div_mul]
   have h8:n/256^m%256%2^8=n/256^m%256:=Nat.mod_eq_of_lt (Nat.mod_lt _ (by decide))
   rw[h8]
theorem Lg (n:Nat) (h:n<B64^4):leN (byL n)=n:=by
 have:=ML n 32 0
 simp only[Nat.zero_add,Nat.pow_zero,Nat.div_one] at this
 unfold byL
 rw[this,Nat.mod_eq_of_lt (by rw[show 256^32=B64^4 by decide];exact h)]
theorem Ea {P:Program} {fn:Func} {R:Ending→World→Prop} {A:Act} {w:World} {f:FuncId} {cap:Array Value} (hd:A.defers=[{ target:=.fn (.func f) cap,args:=#[] }]) (hE:Enters P f) (h:CallsD P f cap .returning w fun E u w'=>u=.returning∧(E=.returned (.tuple #[])∧∃ v,(results fn A.tmps).run P w'=.ok v w'∧R (.returned v) w')):bodyPostD P fn R .ret A w:=by
 show Leaves P fn A.tmps R A.defers .returning w
 rw[hd]
 refine leaves_cons (by simp) (f:=f) (args:=cap) (by have:=hE cap w;simpa [invoke] using this) (h.mono ?_)
 rintro E u w' ⟨rfl,rfl,v,hv,hR⟩
 exact⟨v,hv,hR⟩
theorem EE (n:Nat):(⟨(byL n).toArray⟩:ByteArray).size=32:=by show (byL n).toArray.size=32;simp[byL]
theorem OZ (m:Nat) (h:m<PN) (w:World):Calls Tryz.prog 30 #[.string ⟨(byL m).toArray⟩] w fun e w'=>e=.returned (.tuple #[Aa m,.int .i64 0])∧Below w.heap.size w w':=by
 have h1:=Uf ⟨(byL m).toArray⟩ w (EE m)
 rw[show leN (⟨(byL m).toArray⟩:ByteArray).data.toList=m from Lg m (Nat.lt_trans h VD),if_pos h] at h1
 exact h1
theorem bs (m:Nat) (h:¬ m<PN) (hB:m<B64^4) (w:World):Calls Tryz.prog 30 #[.string ⟨(byL m).toArray⟩] w fun e w'=>e=.returned (.tuple #[Aa 0,.int .i64 2])∧Below w.heap.size w w':=by
 have h1:=Uf ⟨(byL m).toArray⟩ w (EE m)
 rw[show leN (⟨(byL m).toArray⟩:ByteArray).data.toList=m from Lg m hB,if_neg h] at h1
 exact h1
theorem Mg (N:Nat) (b:Nat) (hb:CF N 255=b) (w:World):Calls Tryz.prog 29 #[Aa N,.int .i64 255] w fun e w'=>e=.returned (.int .u64 (b:Int))∧Below w.heap.size w w':=by
 rw[← hb]
 exact Ji N 255 w (by decide)
theorem Tx (x y:Operand) (W:World):(do eqGuard .eql 61 x y (.int .u64 ((0:Nat):Int)) (.int .u64 1);binOp .eql 61 (.int .u64 ((0:Nat):Int)) (.int .u64 1):Sem Value).run Tryz.prog W=.ok (.bool false) W:=by
 go_simp
theorem LS (x y:Operand) (W:World):(do eqGuard .eql 61 x y (.int .u64 ((1:Nat):Int)) (.int .u64 1);binOp .eql 61 (.int .u64 ((1:Nat):Int)) (.int .u64 1):Sem Value).run Tryz.prog W=.ok (.bool true) W:=by
 go_simp
theorem PQ (N:Nat):(OF N=false→CF N 255=0)∧(OF N=true→CF N 255=1):=by
 have h:=EK N 255
 unfold OF
 exact⟨fun h1=>by have:=of_decide_eq_false h1;omega,of_decide_eq_true⟩
theorem ME (b:Nat) (x y:Operand) (W:World):(do eqGuard .eql 61 x y (.int .u64 (b:Int)) (.int .u64 1);binOp .eql 61 (.int .u64 (b:Int)) (.int .u64 1):Sem Value).run Tryz.prog W=.ok (.bool (decide (b=1))) W:=by
 have e:((b:Int) == 1)=decide (b=1):=by
  rw[Bool.eq_iff_iff]
  simp
  omega
 go_simp
theorem Vy (s:ByteArray) (hs:s.size=32) (N m bb:Nat) (hN:leN s.data.toList=N) (em:m=N%(9223372036854775808*B64^3)) (hmB:m<B64^4) (hbit:CF N 255=bb) (hm:¬ m<PN) (w:World):Calls Tryz.prog 10 #[.string s] w fun E w'=>E=.returned (.tuple #[pv4 Cu,.int .i64 2])∧Below w.heap.size w w':=by
 have HMIX:=Lh (show Tryz.prog.follows .mixedOrders=true by kernel_rfl)
 have KO:=Lh (fun w=>Gh s w hs)
 rw[hN] at KO
 clear hN
 go_enter_defers Tryz.func10,Tryz.ntmps10
 have hM0:=Mem.start w
 (go_step;go_step;refine wp_region_lit ?_)
 refine At hM0 (ob:=.cells z16 39 (0,0)) (fun W=>Ab rfl (Ew W)) rfl fun b1 W1 hM1=>?_
 simp only[nmA]
 refine At hM1 (ob:=.cells #[.int .i64 0] 27 (0,0)) (fun W=>Ab rfl (Mu W)) rfl fun b2 W2 hM2=>?_
 simp only[nmA]
 refine wpList_nil ?_
 ((iterate 3 go_step);refine wp_region_lit ?_)
 refine Ac (v:=.func (.func 26) #[] #[.pointer (some ⟨b2,0,none⟩),.pointer (some ⟨b1,0,none⟩)]) (fun W=>Bs rfl (by simp[Instr.makeFunc,Act.eval])) rfl ?_
 simp only[nmA]
 refine Hy (d:={ target:=.fn (.func 26) #[.pointer (some ⟨b2,0,none⟩),.pointer (some ⟨b1,0,none⟩)],args:=#[] }) (fun W=>EJ W rfl rfl) rfl rfl ?_
 dsimp only
 refine wpList_nil ?_
 ((iterate 3 go_step);refine wp_region_lit ?_)
 refine Ad (.string s) ?_
 simp only[nmA]
 refine Ah hM2 (args:=#[.string s]) (v:=.tuple #[Aa N,.int .i64 0]) (rcf (enters_of Tryz.func28 rfl rfl)) (KO.out W2) rfl fun W3 hM3=>?_
 simp only[nmA]
 refine Ad (.tuple #[Aa N,.int .i64 0]) ?_
 simp only[nmA]
 refine Ad (Aa N) ?_
 simp only[nmA]
 refine Ad (.int .i64 0) ?_
 simp only[nmA]
 refine At hM3 (ob:=.cells z4 24 (0,0)) (fun W=>Ab rfl (Gb W)) rfl fun b3 W4 hM4=>?_
 simp only[nmA]
 refine Av hM4 0 (cs:=(elR N)) rfl rfl rfl rfl Bx rfl (Ay N) rfl rfl fun W5 hM5=>?_
 simp only[nm2,nm3] at hM5
 refine Ba hM5 1 (cs':=#[.int .i64 0]) rfl rfl rfl rfl (by show 0<1;decide) (rfl) Be rfl rfl rfl fun W6 hM6=>?_
 simp only[nm2,nm3] at hM6
 refine wpList_nil ?_
 ((iterate 4 go_step);refine wp_region_lit ?_)
 refine Bc hM6 1 (v:=.int .i64 0) rfl rfl rfl rfl Be rfl ?_
 simp only[nmA]
 refine Ac (v:=.bool false) (fun W=>Cl W rfl rfl rfl rfl) rfl ?_
 simp only[nmA]
 refine wpList_nil ?_
 ((iterate 7 go_step);refine wp_region_lit ?_)
 refine AD hM6 0 (v:=Aa N) rfl rfl rfl rfl Bx rfl ?_
 simp only[nmA]
 refine Ah hM6 (args:=#[Aa N,.int .i64 255]) (v:=.int .u64 ((bb:Nat):Int)) (rcf (enters_of Tryz.func29 rfl rfl)) (Mg N bb hbit W6) rfl fun W7 hM7=>?_
 simp only[nmA]
 obtain⟨c1,hc1⟩:=exza (decide (bb=1))
 refine Ac (v:=.bool c1) (fun W=>Ag rfl rfl rfl (by rw[hc1];exact ME bb _ _ W)) rfl ?_
 simp only[nmA]
 refine Ad (.bool c1) ?_
 simp only[nmA]
 refine wpList_nil ?_
 ((iterate 3 go_step);refine wp_region_lit ?_)
 refine Ac (v:=.pointer (some ⟨b3,3,none⟩)) (fun W=>Ar rfl rfl rfl (D8 b3 W)) rfl ?_
 simp only[nmA]
 refine Bc hM7 0 (v:=.int .u64 (wd N 3:Int)) rfl rfl rfl rfl BN rfl ?_
 simp only[nmA]
 refine Ac (v:=.int .u64 (((wd N 3)%9223372036854775808:Nat):Int)) (fun W=>Ag rfl rfl rfl (HU (wd N 3) (Cb _ _) _ _ W)) rfl ?_
 simp only[nmA]
 refine Ac (v:=.pointer (some ⟨b3,3,none⟩)) (fun W=>Ar rfl rfl rfl (D8 b3 W)) rfl ?_
 simp only[nmA]
 refine Ba hM7 0 (cs':=(elR m)) rfl rfl rfl rfl (by show 3<4;decide) (by rw[em];exact Fb N) BN rfl rfl rfl fun W8 hM8=>?_
 simp only[nm2,nm3] at hM8
 refine wpList_nil ?_
 ((iterate 3 go_step);refine wp_region_lit ?_)
 refine AD hM8 0 (v:=Aa m) rfl rfl rfl rfl Bx rfl ?_
 simp only[nmA]
 refine Ah hM8 (args:=#[Aa m]) (v:=.string ⟨(byL m).toArray⟩) (rcf (enters_of Tryz.func31 rfl rfl)) (Er m W8) rfl fun W9 hM9=>?_
 simp only[nmA]
 refine Ah hM9 (args:=#[.string ⟨(byL m).toArray⟩]) (v:=.tuple #[Aa 0,.int .i64 2]) (rcf (enters_of Tryz.func30 rfl rfl)) (bs m hm hmB W9) rfl fun W10 hM10=>?_
 simp only[nmA]
 refine Ad (.tuple #[Aa 0,.int .i64 2]) ?_
 simp only[nmA]
 refine Ad (Aa 0) ?_
 simp only[nmA]
 refine Ad (.int .i64 2) ?_
 simp only[nmA]
 refine At hM10 (ob:=.cells z4 36 (0,0)) (fun W=>Ab rfl (Bk W)) rfl fun b4 W11 hM11=>?_
 simp only[nmA]
 refine Av hM11 0 (cs:=(elR 0)) rfl rfl rfl rfl Aw rfl (Ay 0) rfl rfl fun W12 hM12=>?_
 simp only[nm2,nm3] at hM12
 refine Ba hM12 2 (cs':=#[.int .i64 2]) rfl rfl rfl rfl (by show 0<1;decide) (rfl) Be rfl rfl rfl fun W13 hM13=>?_
 simp only[nm2,nm3] at hM13
 refine wpList_nil ?_
 ((iterate 4 go_step);refine wp_region_lit ?_)
 refine Bc hM13 2 (v:=.int .i64 2) rfl rfl rfl rfl Be rfl ?_
 simp only[nmA]
 refine Ac (v:=.bool true) (fun W=>Cl W rfl rfl rfl rfl) rfl ?_
 simp only[nmA]
 refine wpList_nil ?_
 have hMd:=hM13.drew
 ((iterate 4 go_step);refine wp_region_noPanic (wp_region_held_drew HMIX.out (S:=fun w1=>w1.heap[b1]?=some (.cells z16 39 (0,0))∧w1.heap[b2]?=some (.cells #[.int .i64 2] 27 (0,0))) (⟨hMd.get 3 rfl,hMd.get 2 rfl⟩) fun hS=>?_))
 change wpAnyH _ _ _ _ _ 4 _ _ _
 generalize W13.drew=W14 at hMd hS ⊢
 have hM14:=hMd
 clear hMd
 refine Ka 0 34 #[true,false,false,false] (by kernel_rfl) (v:=.agg z16) (cs:=z16) (b:=b1) rfl rfl rfl rfl (fun W hW=>hW.1) rfl AS (by kernel_rfl) (by kernel_rfl) (by kernel_rfl) rfl hS ?_
 simp only[nmA]
 refine K6 1 35 #[true,true,false,false] (by kernel_rfl) (v:=.int .i64 2) (cs:=#[.int .i64 2]) (b:=b2) rfl rfl rfl rfl (fun W hW=>hW.2) rfl Be (by kernel_rfl) (by kernel_rfl) (by kernel_rfl) rfl hS ?_
 simp only[nmA]
 refine GL (n:=2) #[true,true,true,false] (by kernel_rfl) (by kernel_rfl) rfl hM14 3 (cs:=z16) rfl rfl rfl rfl AS rfl Ul rfl rfl (fun W hW=>⟨hW.get 3 rfl,hW.get 2 rfl⟩) fun W15 hM15=>?_
 simp only[nm2,nm3] at hM15
 refine Jw (n:=3) #[true,true,true,true] (by kernel_rfl) (by kernel_rfl) rfl hM15 2 (cs':=#[.int .i64 2]) rfl rfl rfl rfl (by show 0<1;decide) (rfl) Be rfl rfl rfl (fun W hW=>⟨hW.get 3 rfl,hW.get 2 rfl⟩) fun W16 hM16=>?_
 simp only[nm2,nm3] at hM16
 refine wpAnyH_done (by kernel_rfl) ?_ _
 refine NoPanic.normal ?_
 ((iterate 3 go_step);refine Ea rfl (enters_of Tryz.func26 rfl rfl) ((Hu _ _ _ 2 3 _ _ 2 _ hM16 rfl rfl rfl).mono ?_))
 rintro E u w' ⟨rfl,rfl,hMF⟩
 rw[if_neg (by decide)] at hMF
 simp only[nm2,nm3] at hMF
 exact⟨rfl,rfl,_,CI Tryz.results10 rfl rfl (hMF.load 3 rfl AS) (FK (hMF.get 2 rfl) rfl Be),rfl,hMF.below⟩
theorem fL (s:ByteArray) (hs:s.size=32) (N m bb x:Nat) (hN:leN s.data.toList=N) (em:m=N%(9223372036854775808*B64^3)) (hbit:CF N 255=bb) (hm:m<PN) (ex:x=Bu iV (sqR m)) (hok:okN iV (sqR m)=false) (w:World):Calls Tryz.prog 10 #[.string s] w fun E w'=>E=.returned (.tuple #[pv4 Cu,.int .i64 22])∧Below w.heap.size w w':=by
 have HMIX:=Lh (show Tryz.prog.follows .mixedOrders=true by kernel_rfl)
 have KO:=Lh (fun w=>Gh s w hs)
 rw[hN] at KO
 clear hN
 have hx:x<PN:=by rw[ex];exact BI _
 have KB:=Lh (fun w=>GM m w hm)
 rw[← ex,hok] at KB
 go_enter_defers Tryz.func10,Tryz.ntmps10
 have hM0:=Mem.start w
 (go_step;go_step;refine wp_region_lit ?_)
 refine At hM0 (ob:=.cells z16 39 (0,0)) (fun W=>Ab rfl (Ew W)) rfl fun b1 W1 hM1=>?_
 simp only[nmA]
 refine At hM1 (ob:=.cells #[.int .i64 0] 27 (0,0)) (fun W=>Ab rfl (Mu W)) rfl fun b2 W2 hM2=>?_
 simp only[nmA]
 refine wpList_nil ?_
 ((iterate 3 go_step);refine wp_region_lit ?_)
 refine Ac (v:=.func (.func 26) #[] #[.pointer (some ⟨b2,0,none⟩),.pointer (some ⟨b1,0,none⟩)]) (fun W=>Bs rfl (by simp[Instr.makeFunc,Act.eval])) rfl ?_
 simp only[nmA]
 refine Hy (d:={ target:=.fn (.func 26) #[.pointer (some ⟨b2,0,none⟩),.pointer (some ⟨b1,0,none⟩)],args:=#[] }) (fun W=>EJ W rfl rfl) rfl rfl ?_
 dsimp only
 refine wpList_nil ?_
 ((iterate 3 go_step);refine wp_region_lit ?_)
 refine Ad (.string s) ?_
 simp only[nmA]
 refine Ah hM2 (args:=#[.string s]) (v:=.tuple #[Aa N,.int .i64 0]) (rcf (enters_of Tryz.func28 rfl rfl)) (KO.out W2) rfl fun W3 hM3=>?_
 simp only[nmA]
 refine Ad (.tuple #[Aa N,.int .i64 0]) ?_
 simp only[nmA]
 refine Ad (Aa N) ?_
 simp only[nmA]
 refine Ad (.int .i64 0) ?_
 simp only[nmA]
 refine At hM3 (ob:=.cells z4 24 (0,0)) (fun W=>Ab rfl (Gb W)) rfl fun b3 W4 hM4=>?_
 simp only[nmA]
 refine Av hM4 0 (cs:=(elR N)) rfl rfl rfl rfl Bx rfl (Ay N) rfl rfl fun W5 hM5=>?_
 simp only[nm2,nm3] at hM5
 refine Ba hM5 1 (cs':=#[.int .i64 0]) rfl rfl rfl rfl (by show 0<1;decide) (rfl) Be rfl rfl rfl fun W6 hM6=>?_
 simp only[nm2,nm3] at hM6
 refine wpList_nil ?_
 ((iterate 4 go_step);refine wp_region_lit ?_)
 refine Bc hM6 1 (v:=.int .i64 0) rfl rfl rfl rfl Be rfl ?_
 simp only[nmA]
 refine Ac (v:=.bool false) (fun W=>Cl W rfl rfl rfl rfl) rfl ?_
 simp only[nmA]
 refine wpList_nil ?_
 ((iterate 7 go_step);refine wp_region_lit ?_)
 refine AD hM6 0 (v:=Aa N) rfl rfl rfl rfl Bx rfl ?_
 simp only[nmA]
 refine Ah hM6 (args:=#[Aa N,.int .i64 255]) (v:=.int .u64 ((bb:Nat):Int)) (rcf (enters_of Tryz.func29 rfl rfl)) (Mg N bb hbit W6) rfl fun W7 hM7=>?_
 simp only[nmA]
 obtain⟨c1,hc1⟩:=exza (decide (bb=1))
 refine Ac (v:=.bool c1) (fun W=>Ag rfl rfl rfl (by rw[hc1];exact ME bb _ _ W)) rfl ?_
 simp only[nmA]
 refine Ad (.bool c1) ?_
 simp only[nmA]
 refine wpList_nil ?_
 ((iterate 3 go_step);refine wp_region_lit ?_)
 refine Ac (v:=.pointer (some ⟨b3,3,none⟩)) (fun W=>Ar rfl rfl rfl (D8 b3 W)) rfl ?_
 simp only[nmA]
 refine Bc hM7 0 (v:=.int .u64 (wd N 3:Int)) rfl rfl rfl rfl BN rfl ?_
 simp only[nmA]
 refine Ac (v:=.int .u64 (((wd N 3)%9223372036854775808:Nat):Int)) (fun W=>Ag rfl rfl rfl (HU (wd N 3) (Cb _ _) _ _ W)) rfl ?_
 simp only[nmA]
 refine Ac (v:=.pointer (some ⟨b3,3,none⟩)) (fun W=>Ar rfl rfl rfl (D8 b3 W)) rfl ?_
 simp only[nmA]
 refine Ba hM7 0 (cs':=(elR m)) rfl rfl rfl rfl (by show 3<4;decide) (by rw[em];exact Fb N) BN rfl rfl rfl fun W8 hM8=>?_
 simp only[nm2,nm3] at hM8
 refine wpList_nil ?_
 ((iterate 3 go_step);refine wp_region_lit ?_)
 refine AD hM8 0 (v:=Aa m) rfl rfl rfl rfl Bx rfl ?_
 simp only[nmA]
 refine Ah hM8 (args:=#[Aa m]) (v:=.string ⟨(byL m).toArray⟩) (rcf (enters_of Tryz.func31 rfl rfl)) (Er m W8) rfl fun W9 hM9=>?_
 simp only[nmA]
 refine Ah hM9 (args:=#[.string ⟨(byL m).toArray⟩]) (v:=.tuple #[Aa m,.int .i64 0]) (rcf (enters_of Tryz.func30 rfl rfl)) (OZ m hm W9) rfl fun W10 hM10=>?_
 simp only[nmA]
 refine Ad (.tuple #[Aa m,.int .i64 0]) ?_
 simp only[nmA]
 refine Ad (Aa m) ?_
 simp only[nmA]
 refine Ad (.int .i64 0) ?_
 simp only[nmA]
 refine At hM10 (ob:=.cells z4 36 (0,0)) (fun W=>Ab rfl (Bk W)) rfl fun b4 W11 hM11=>?_
 simp only[nmA]
 refine Av hM11 0 (cs:=(elR m)) rfl rfl rfl rfl Aw rfl (Ay m) rfl rfl fun W12 hM12=>?_
 simp only[nm2,nm3] at hM12
 refine Ba hM12 2 (cs':=#[.int .i64 0]) rfl rfl rfl rfl (by show 0<1;decide) (rfl) Be rfl rfl rfl fun W13 hM13=>?_
 simp only[nm2,nm3] at hM13
 refine wpList_nil ?_
 ((iterate 4 go_step);refine wp_region_lit ?_)
 refine Bc hM13 2 (v:=.int .i64 0) rfl rfl rfl rfl Be rfl ?_
 simp only[nmA]
 refine Ac (v:=.bool false) (fun W=>Cl W rfl rfl rfl rfl) rfl ?_
 simp only[nmA]
 refine wpList_nil ?_
 ((iterate 7 go_step);refine wp_region_lit ?_)
 refine AD hM13 0 (v:=Aa m) rfl rfl rfl rfl Aw rfl ?_
 simp only[nmA]
 refine Ah hM13 (args:=#[Aa m]) (v:=.tuple #[Aa x,.bool false]) (rcf (enters_of Tryz.func32 rfl rfl)) (KB.out W13) rfl fun W14 hM14=>?_
 simp only[nmA]
 refine Ad (.tuple #[Aa x,.bool false]) ?_
 simp only[nmA]
 refine Ad (Aa x) ?_
 simp only[nmA]
 refine Ad (.bool false) ?_
 simp only[nmA]
 refine At hM14 (ob:=.cells z4 36 (0,0)) (fun W=>Ab rfl (Bk W)) rfl fun b5 W15 hM15=>?_
 simp only[nmA]
 refine Av hM15 0 (cs:=(elR x)) rfl rfl rfl rfl Aw rfl (Ay x) rfl rfl fun W16 hM16=>?_
 simp only[nm2,nm3] at hM16
 refine Ad (.bool false) ?_
 simp only[nmA]
 refine wpList_nil ?_
 ((iterate 4 go_step);refine wp_region_lit ?_)
 refine Ad (.bool false) ?_
 simp only[nmA]
 refine Ac (v:=.bool true) (fun W=>Df W rfl rfl rfl) rfl ?_
 simp only[nmA]
 refine wpList_nil ?_
 ((iterate 4 go_step);refine wp_region_lit ?_)
 refine AD hM16 4 (v:=.agg z16) rfl rfl rfl rfl AS rfl ?_
 simp only[nmA]
 refine Av hM16 4 (cs:=z16) rfl rfl rfl rfl AS rfl Ul rfl rfl fun W17 hM17=>?_
 simp only[nm2,nm3] at hM17
 refine Ba hM17 3 (cs':=#[.int .i64 22]) rfl rfl rfl rfl (by show 0<1;decide) (rfl) Be rfl rfl rfl fun W18 hM18=>?_
 simp only[nm2,nm3] at hM18
 refine wpList_nil ?_
 ((iterate 3 go_step);refine Ea rfl (enters_of Tryz.func26 rfl rfl) ((Hu _ _ _ 3 4 _ _ 22 _ hM18 rfl rfl rfl).mono ?_))
 rintro E u w' ⟨rfl,rfl,hMF⟩
 rw[if_neg (by decide)] at hMF
 simp only[nm2,nm3] at hMF
 exact⟨rfl,rfl,_,CI Tryz.results10 rfl rfl (hMF.load 4 rfl AS) (FK (hMF.get 3 rfl) rfl Be),rfl,hMF.below⟩
theorem bO (s:ByteArray) (hs:s.size=32) (N m x:Nat) (hN:leN s.data.toList=N) (em:m=N%(9223372036854775808*B64^3)) (hbit:CF N 255=1) (hm:m<PN) (ex:x=Bu iV (sqR m)) (hok:okN iV (sqR m)=true) (h0:x=0) (w:World):Calls Tryz.prog 10 #[.string s] w fun E w'=>E=.returned (.tuple #[pv4 Cu,.int .i64 22])∧Below w.heap.size w w':=by
 have HMIX:=Lh (show Tryz.prog.follows .mixedOrders=true by kernel_rfl)
 have KO:=Lh (fun w=>Gh s w hs)
 rw[hN] at KO
 clear hN
 have hx:x<PN:=by rw[ex];exact BI _
 have KB:=Lh (fun w=>GM m w hm)
 rw[← ex,hok] at KB
 have hon:On (fz x,fz m):=by rw[ex];exact Jx m hok
 have oka:Ok4 (x,m,1,x*m%PN) ((fz x,fz m):Pt):=J3 x m _ hx hm hon rfl rfl
 have KM:=Lh (fun w=>MJ x m hx hm hon w)
 obtain⟨a,ea⟩:=exza (((x,m,1,x*m%PN):N4))
 rw[← ea] at oka KM
 clear hon ex hok
 go_enter_defers Tryz.func10,Tryz.ntmps10
 have hM0:=Mem.start w
 (go_step;go_step;refine wp_region_lit ?_)
 refine At hM0 (ob:=.cells z16 39 (0,0)) (fun W=>Ab rfl (Ew W)) rfl fun b1 W1 hM1=>?_
 simp only[nmA]
 refine At hM1 (ob:=.cells #[.int .i64 0] 27 (0,0)) (fun W=>Ab rfl (Mu W)) rfl fun b2 W2 hM2=>?_
 simp only[nmA]
 refine wpList_nil ?_
 ((iterate 3 go_step);refine wp_region_lit ?_)
 refine Ac (v:=.func (.func 26) #[] #[.pointer (some ⟨b2,0,none⟩),.pointer (some ⟨b1,0,none⟩)]) (fun W=>Bs rfl (by simp[Instr.makeFunc,Act.eval])) rfl ?_
 simp only[nmA]
 refine Hy (d:={ target:=.fn (.func 26) #[.pointer (some ⟨b2,0,none⟩),.pointer (some ⟨b1,0,none⟩)],args:=#[] }) (fun W=>EJ W rfl rfl) rfl rfl ?_
 dsimp only
 refine wpList_nil ?_
 ((iterate 3 go_step);refine wp_region_lit ?_)
 refine Ad (.string s) ?_
 simp only[nmA]
 refine Ah hM2 (args:=#[.string s]) (v:=.tuple #[Aa N,.int .i64 0]) (rcf (enters_of Tryz.func28 rfl rfl)) (KO.out W2) rfl fun W3 hM3=>?_
 simp only[nmA]
 refine Ad (.tuple #[Aa N,.int .i64 0]) ?_
 simp only[nmA]
 refine Ad (Aa N) ?_
 simp only[nmA]
 refine Ad (.int .i64 0) ?_
 simp only[nmA]
 refine At hM3 (ob:=.cells z4 24 (0,0)) (fun W=>Ab rfl (Gb W)) rfl fun b3 W4 hM4=>?_
 simp only[nmA]
 refine Av hM4 0 (cs:=(elR N)) rfl rfl rfl rfl Bx rfl (Ay N) rfl rfl fun W5 hM5=>?_
 simp only[nm2,nm3] at hM5
 refine Ba hM5 1 (cs':=#[.int .i64 0]) rfl rfl rfl rfl (by show 0<1;decide) (rfl) Be rfl rfl rfl fun W6 hM6=>?_
 simp only[nm2,nm3] at hM6
 refine wpList_nil ?_
 ((iterate 4 go_step);refine wp_region_lit ?_)
 refine Bc hM6 1 (v:=.int .i64 0) rfl rfl rfl rfl Be rfl ?_
 simp only[nmA]
 refine Ac (v:=.bool false) (fun W=>Cl W rfl rfl rfl rfl) rfl ?_
 simp only[nmA]
 refine wpList_nil ?_
 ((iterate 7 go_step);refine wp_region_lit ?_)
 refine AD hM6 0 (v:=Aa N) rfl rfl rfl rfl Bx rfl ?_
 simp only[nmA]
 refine Ah hM6 (args:=#[Aa N,.int .i64 255]) (v:=.int .u64 ((1:Nat):Int)) (rcf (enters_of Tryz.func29 rfl rfl)) (Mg N 1 hbit W6) rfl fun W7 hM7=>?_
 simp only[nmA]
 refine Ac (v:=.bool true) (fun W=>Ag rfl rfl rfl (LS _ _ W)) rfl ?_
 simp only[nmA]
 refine Ad (.bool true) ?_
 simp only[nmA]
 refine wpList_nil ?_
 ((iterate 3 go_step);refine wp_region_lit ?_)
 refine Ac (v:=.pointer (some ⟨b3,3,none⟩)) (fun W=>Ar rfl rfl rfl (D8 b3 W)) rfl ?_
 simp only[nmA]
 refine Bc hM7 0 (v:=.int .u64 (wd N 3:Int)) rfl rfl rfl rfl BN rfl ?_
 simp only[nmA]
 refine Ac (v:=.int .u64 (((wd N 3)%9223372036854775808:Nat):Int)) (fun W=>Ag rfl rfl rfl (HU (wd N 3) (Cb _ _) _ _ W)) rfl ?_
 simp only[nmA]
 refine Ac (v:=.pointer (some ⟨b3,3,none⟩)) (fun W=>Ar rfl rfl rfl (D8 b3 W)) rfl ?_
 simp only[nmA]
 refine Ba hM7 0 (cs':=(elR m)) rfl rfl rfl rfl (by show 3<4;decide) (by rw[em];exact Fb N) BN rfl rfl rfl fun W8 hM8=>?_
 simp only[nm2,nm3] at hM8
 refine wpList_nil ?_
 ((iterate 3 go_step);refine wp_region_lit ?_)
 refine AD hM8 0 (v:=Aa m) rfl rfl rfl rfl Bx rfl ?_
 simp only[nmA]
 refine Ah hM8 (args:=#[Aa m]) (v:=.string ⟨(byL m).toArray⟩) (rcf (enters_of Tryz.func31 rfl rfl)) (Er m W8) rfl fun W9 hM9=>?_
 simp only[nmA]
 refine Ah hM9 (args:=#[.string ⟨(byL m).toArray⟩]) (v:=.tuple #[Aa m,.int .i64 0]) (rcf (enters_of Tryz.func30 rfl rfl)) (OZ m hm W9) rfl fun W10 hM10=>?_
 simp only[nmA]
 refine Ad (.tuple #[Aa m,.int .i64 0]) ?_
 simp only[nmA]
 refine Ad (Aa m) ?_
 simp only[nmA]
 refine Ad (.int .i64 0) ?_
 simp only[nmA]
 refine At hM10 (ob:=.cells z4 36 (0,0)) (fun W=>Ab rfl (Bk W)) rfl fun b4 W11 hM11=>?_
 simp only[nmA]
 refine Av hM11 0 (cs:=(elR m)) rfl rfl rfl rfl Aw rfl (Ay m) rfl rfl fun W12 hM12=>?_
 simp only[nm2,nm3] at hM12
 refine Ba hM12 2 (cs':=#[.int .i64 0]) rfl rfl rfl rfl (by show 0<1;decide) (rfl) Be rfl rfl rfl fun W13 hM13=>?_
 simp only[nm2,nm3] at hM13
 refine wpList_nil ?_
 ((iterate 4 go_step);refine wp_region_lit ?_)
 refine Bc hM13 2 (v:=.int .i64 0) rfl rfl rfl rfl Be rfl ?_
 simp only[nmA]
 refine Ac (v:=.bool false) (fun W=>Cl W rfl rfl rfl rfl) rfl ?_
 simp only[nmA]
 refine wpList_nil ?_
 ((iterate 7 go_step);refine wp_region_lit ?_)
 refine AD hM13 0 (v:=Aa m) rfl rfl rfl rfl Aw rfl ?_
 simp only[nmA]
 refine Ah hM13 (args:=#[Aa m]) (v:=.tuple #[Aa x,.bool true]) (rcf (enters_of Tryz.func32 rfl rfl)) (KB.out W13) rfl fun W14 hM14=>?_
 simp only[nmA]
 refine Ad (.tuple #[Aa x,.bool true]) ?_
 simp only[nmA]
 refine Ad (Aa x) ?_
 simp only[nmA]
 refine Ad (.bool true) ?_
 simp only[nmA]
 refine At hM14 (ob:=.cells z4 36 (0,0)) (fun W=>Ab rfl (Bk W)) rfl fun b5 W15 hM15=>?_
 simp only[nmA]
 refine Av hM15 0 (cs:=(elR x)) rfl rfl rfl rfl Aw rfl (Ay x) rfl rfl fun W16 hM16=>?_
 simp only[nm2,nm3] at hM16
 refine Ad (.bool true) ?_
 simp only[nmA]
 refine wpList_nil ?_
 ((iterate 4 go_step);refine wp_region_lit ?_)
 refine Ad (.bool true) ?_
 simp only[nmA]
 refine Ac (v:=.bool false) (fun W=>Df W rfl rfl rfl) rfl ?_
 simp only[nmA]
 refine wpList_nil ?_
 ((iterate 7 go_step);refine wp_region_lit ?_)
 refine AD hM16 0 (v:=Aa x) rfl rfl rfl rfl Aw rfl ?_
 simp only[nmA]
 refine AD hM16 1 (v:=Aa m) rfl rfl rfl rfl Aw rfl ?_
 simp only[nmA]
 refine Ah hM16 (args:=#[Aa x,Aa m]) (v:=.tuple #[pv4 a,.int .i64 0]) (rcf (enters_of Tryz.func33 rfl rfl)) (KM.out W16) rfl fun W17 hM17=>?_
 simp only[nmA]
 refine Ad (.tuple #[pv4 a,.int .i64 0]) ?_
 simp only[nmA]
 refine Ad (pv4 a) ?_
 simp only[nmA]
 refine Ad (.int .i64 0) ?_
 simp only[nmA]
 refine Av hM17 4 (cs:=((pc4 a))) rfl rfl rfl rfl AS rfl (Cf _) rfl rfl fun W18 hM18=>?_
 simp only[nm2,nm3] at hM18
 refine Ba hM18 3 (cs':=#[.int .i64 0]) rfl rfl rfl rfl (by show 0<1;decide) (rfl) Be rfl rfl rfl fun W19 hM19=>?_
 simp only[nm2,nm3] at hM19
 refine wpList_nil ?_
 ((iterate 4 go_step);refine Ak 6 HMIX.out (by decide) (by kernel_rfl) (by kernel_rfl) ?_)
 refine AM (.bool true) ?_;simp only[nmA]
 refine AM (.bool true) ?_;simp only[nmA]
 refine Ao hM19 0 (v:=Aa x) rfl rfl rfl rfl Aw rfl rfl ?_;simp only[nmA]
 refine Am (args:=#[.int .u64 0]) (v:=Aa 0) (rcf (enters_of Tryz.func34 rfl rfl)) (fun W _=>Cq 0 (by decide) W) rfl rfl ?_;simp only[nmA]
 refine As (v:=.bool true) (fun W=>Ag rfl rfl rfl (by rw[show true=decide (x=0) from (decide_eq_true h0).symm];exact Mq x 0 _ _ W (Bv hx) (Bv Au))) rfl rfl ?_;simp only[nmA]
 refine AM (.bool true) ?_;simp only[nmA]
 refine AO fun d os=>?_
 refine Az fun hap=>?_
 have hM20:=hM19.calls (below_regrown W19 d os)
 clear hap 
 generalize grow (redrawn W19 d) os=W20 at hM20 ⊢
 refine wpAny_done (by kernel_rfl) ?_ _
 ((iterate 3 go_step);refine wp_region_lit ?_)
 refine Ba hM20 3 (cs':=#[.int .i64 22]) rfl rfl rfl rfl (by show 0<1;decide) (rfl) Be rfl rfl rfl fun W21 hM21=>?_
 simp only[nm2,nm3] at hM21
 refine wpList_nil ?_
 ((iterate 4 go_step);refine wp_region_lit ?_)
 refine Ad (.bool true) ?_
 simp only[nmA]
 refine wpList_nil ?_
 ((iterate 3 go_step);refine wp_region_lit ?_)
 refine AD hM21 4 (v:=pv4 a) rfl rfl rfl rfl AS rfl ?_
 simp only[nmA]
 refine Ah hM21 (args:=#[pv4 a]) (v:=pv4 ((G9 a))) (rcf (enters_of Tryz.func35 rfl rfl)) (Xy oka W21) rfl fun W22 hM22=>?_
 simp only[nmA]
 refine Av hM22 4 (cs:=((pc4 ((G9 a))))) rfl rfl rfl rfl AS rfl (Cf _) rfl rfl fun W23 hM23=>?_
 simp only[nm2,nm3] at hM23
 refine wpList_nil ?_
 have hMd:=hM23.drew
 ((iterate 3 go_step);refine wp_region_noPanic (wp_region_held_drew HMIX.out (S:=fun w1=>w1.heap[b1]?=some (.cells ((pc4 ((G9 a)))) 39 (0,0))∧w1.heap[b2]?=some (.cells #[.int .i64 22] 27 (0,0))) (⟨hMd.get 4 rfl,hMd.get 3 rfl⟩) fun hS=>?_))
 change wpAnyH _ _ _ _ _ 4 _ _ _
 generalize W23.drew=W24 at hMd hS ⊢
 have hM24:=hMd
 clear hMd
 refine Ka 0 59 #[true,false,false,false] (by kernel_rfl) (v:=pv4 ((G9 a))) (cs:=((pc4 ((G9 a))))) (b:=b1) rfl rfl rfl rfl (fun W hW=>hW.1) rfl AS (by kernel_rfl) (by kernel_rfl) (by kernel_rfl) rfl hS ?_
 simp only[nmA]
 refine K6 1 60 #[true,true,false,false] (by kernel_rfl) (v:=.int .i64 22) (cs:=#[.int .i64 22]) (b:=b2) rfl rfl rfl rfl (fun W hW=>hW.2) rfl Be (by kernel_rfl) (by kernel_rfl) (by kernel_rfl) rfl hS ?_
 simp only[nmA]
 refine GL (n:=2) #[true,true,true,false] (by kernel_rfl) (by kernel_rfl) rfl hM24 4 (cs:=((pc4 ((G9 a))))) rfl rfl rfl rfl AS rfl (Cf _) rfl rfl (fun W hW=>⟨hW.get 4 rfl,hW.get 3 rfl⟩) fun W25 hM25=>?_
 simp only[nm2,nm3] at hM25
 refine Jw (n:=3) #[true,true,true,true] (by kernel_rfl) (by kernel_rfl) rfl hM25 3 (cs':=#[.int .i64 22]) rfl rfl rfl rfl (by show 0<1;decide) (rfl) Be rfl rfl rfl (fun W hW=>⟨hW.get 4 rfl,hW.get 3 rfl⟩) fun W26 hM26=>?_
 simp only[nm2,nm3] at hM26
 refine wpAnyH_done (by kernel_rfl) ?_ _
 refine NoPanic.normal ?_
 ((iterate 3 go_step);refine Ea rfl (enters_of Tryz.func26 rfl rfl) ((Hu _ _ _ 3 4 _ _ 22 _ hM26 rfl rfl rfl).mono ?_))
 rintro E u w' ⟨rfl,rfl,hMF⟩
 rw[if_neg (by decide)] at hMF
 simp only[nm2,nm3] at hMF
 exact⟨rfl,rfl,_,CI Tryz.results10 rfl rfl (hMF.load 4 rfl AS) (FK (hMF.get 3 rfl) rfl Be),rfl,hMF.below⟩
theorem Zb (s:ByteArray) (hs:s.size=32) (N m x:Nat) (hN:leN s.data.toList=N) (em:m=N%(9223372036854775808*B64^3)) (hbit:CF N 255=0) (hm:m<PN) (ex:x=Bu iV (sqR m)) (hok:okN iV (sqR m)=true)  (w:World):Calls Tryz.prog 10 #[.string s] w fun E w'=>E=.returned (.tuple #[pv4 (x,m,1,x*m%PN),.int .i64 0])∧Below w.heap.size w w':=by
 have HMIX:=Lh (show Tryz.prog.follows .mixedOrders=true by kernel_rfl)
 have KO:=Lh (fun w=>Gh s w hs)
 rw[hN] at KO
 clear hN
 have hx:x<PN:=by rw[ex];exact BI _
 have KB:=Lh (fun w=>GM m w hm)
 rw[← ex,hok] at KB
 have hon:On (fz x,fz m):=by rw[ex];exact Jx m hok
 have oka:Ok4 (x,m,1,x*m%PN) ((fz x,fz m):Pt):=J3 x m _ hx hm hon rfl rfl
 have KM:=Lh (fun w=>MJ x m hx hm hon w)
 obtain⟨a,ea⟩:=exza (((x,m,1,x*m%PN):N4))
 rw[← ea] at oka KM ⊢
 clear hon ex hok
 go_enter_defers Tryz.func10,Tryz.ntmps10
 have hM0:=Mem.start w
 (go_step;go_step;refine wp_region_lit ?_)
 refine At hM0 (ob:=.cells z16 39 (0,0)) (fun W=>Ab rfl (Ew W)) rfl fun b1 W1 hM1=>?_
 simp only[nmA]
 refine At hM1 (ob:=.cells #[.int .i64 0] 27 (0,0)) (fun W=>Ab rfl (Mu W)) rfl fun b2 W2 hM2=>?_
 simp only[nmA]
 refine wpList_nil ?_
 ((iterate 3 go_step);refine wp_region_lit ?_)
 refine Ac (v:=.func (.func 26) #[] #[.pointer (some ⟨b2,0,none⟩),.pointer (some ⟨b1,0,none⟩)]) (fun W=>Bs rfl (by simp[Instr.makeFunc,Act.eval])) rfl ?_
 simp only[nmA]
 refine Hy (d:={ target:=.fn (.func 26) #[.pointer (some ⟨b2,0,none⟩),.pointer (some ⟨b1,0,none⟩)],args:=#[] }) (fun W=>EJ W rfl rfl) rfl rfl ?_
 dsimp only
 refine wpList_nil ?_
 ((iterate 3 go_step);refine wp_region_lit ?_)
 refine Ad (.string s) ?_
 simp only[nmA]
 refine Ah hM2 (args:=#[.string s]) (v:=.tuple #[Aa N,.int .i64 0]) (rcf (enters_of Tryz.func28 rfl rfl)) (KO.out W2) rfl fun W3 hM3=>?_
 simp only[nmA]
 refine Ad (.tuple #[Aa N,.int .i64 0]) ?_
 simp only[nmA]
 refine Ad (Aa N) ?_
 simp only[nmA]
 refine Ad (.int .i64 0) ?_
 simp only[nmA]
 refine At hM3 (ob:=.cells z4 24 (0,0)) (fun W=>Ab rfl (Gb W)) rfl fun b3 W4 hM4=>?_
 simp only[nmA]
 refine Av hM4 0 (cs:=(elR N)) rfl rfl rfl rfl Bx rfl (Ay N) rfl rfl fun W5 hM5=>?_
 simp only[nm2,nm3] at hM5
 refine Ba hM5 1 (cs':=#[.int .i64 0]) rfl rfl rfl rfl (by show 0<1;decide) (rfl) Be rfl rfl rfl fun W6 hM6=>?_
 simp only[nm2,nm3] at hM6
 refine wpList_nil ?_
 ((iterate 4 go_step);refine wp_region_lit ?_)
 refine Bc hM6 1 (v:=.int .i64 0) rfl rfl rfl rfl Be rfl ?_
 simp only[nmA]
 refine Ac (v:=.bool false) (fun W=>Cl W rfl rfl rfl rfl) rfl ?_
 simp only[nmA]
 refine wpList_nil ?_
 ((iterate 7 go_step);refine wp_region_lit ?_)
 refine AD hM6 0 (v:=Aa N) rfl rfl rfl rfl Bx rfl ?_
 simp only[nmA]
 refine Ah hM6 (args:=#[Aa N,.int .i64 255]) (v:=.int .u64 ((0:Nat):Int)) (rcf (enters_of Tryz.func29 rfl rfl)) (Mg N 0 hbit W6) rfl fun W7 hM7=>?_
 simp only[nmA]
 refine Ac (v:=.bool false) (fun W=>Ag rfl rfl rfl (Tx _ _ W)) rfl ?_
 simp only[nmA]
 refine Ad (.bool false) ?_
 simp only[nmA]
 refine wpList_nil ?_
 ((iterate 3 go_step);refine wp_region_lit ?_)
 refine Ac (v:=.pointer (some ⟨b3,3,none⟩)) (fun W=>Ar rfl rfl rfl (D8 b3 W)) rfl ?_
 simp only[nmA]
 refine Bc hM7 0 (v:=.int .u64 (wd N 3:Int)) rfl rfl rfl rfl BN rfl ?_
 simp only[nmA]
 refine Ac (v:=.int .u64 (((wd N 3)%9223372036854775808:Nat):Int)) (fun W=>Ag rfl rfl rfl (HU (wd N 3) (Cb _ _) _ _ W)) rfl ?_
 simp only[nmA]
 refine Ac (v:=.pointer (some ⟨b3,3,none⟩)) (fun W=>Ar rfl rfl rfl (D8 b3 W)) rfl ?_
 simp only[nmA]
 refine Ba hM7 0 (cs':=(elR m)) rfl rfl rfl rfl (by show 3<4;decide) (by rw[em];exact Fb N) BN rfl rfl rfl fun W8 hM8=>?_
 simp only[nm2,nm3] at hM8
 refine wpList_nil ?_
 ((iterate 3 go_step);refine wp_region_lit ?_)
 refine AD hM8 0 (v:=Aa m) rfl rfl rfl rfl Bx rfl ?_
 simp only[nmA]
 refine Ah hM8 (args:=#[Aa m]) (v:=.string ⟨(byL m).toArray⟩) (rcf (enters_of Tryz.func31 rfl rfl)) (Er m W8) rfl fun W9 hM9=>?_
 simp only[nmA]
 refine Ah hM9 (args:=#[.string ⟨(byL m).toArray⟩]) (v:=.tuple #[Aa m,.int .i64 0]) (rcf (enters_of Tryz.func30 rfl rfl)) (OZ m hm W9) rfl fun W10 hM10=>?_
 simp only[nmA]
 refine Ad (.tuple #[Aa m,.int .i64 0]) ?_
 simp only[nmA]
 refine Ad (Aa m) ?_
 simp only[nmA]
 refine Ad (.int .i64 0) ?_
 simp only[nmA]
 refine At hM10 (ob:=.cells z4 36 (0,0)) (fun W=>Ab rfl (Bk W)) rfl fun b4 W11 hM11=>?_
 simp only[nmA]
 refine Av hM11 0 (cs:=(elR m)) rfl rfl rfl rfl Aw rfl (Ay m) rfl rfl fun W12 hM12=>?_
 simp only[nm2,nm3] at hM12
 refine Ba hM12 2 (cs':=#[.int .i64 0]) rfl rfl rfl rfl (by show 0<1;decide) (rfl) Be rfl rfl rfl fun W13 hM13=>?_
 simp only[nm2,nm3] at hM13
 refine wpList_nil ?_
 ((iterate 4 go_step);refine wp_region_lit ?_)
 refine Bc hM13 2 (v:=.int .i64 0) rfl rfl rfl rfl Be rfl ?_
 simp only[nmA]
 refine Ac (v:=.bool false) (fun W=>Cl W rfl rfl rfl rfl) rfl ?_
 simp only[nmA]
 refine wpList_nil ?_
 ((iterate 7 go_step);refine wp_region_lit ?_)
 refine AD hM13 0 (v:=Aa m) rfl rfl rfl rfl Aw rfl ?_
 simp only[nmA]
 refine Ah hM13 (args:=#[Aa m]) (v:=.tuple #[Aa x,.bool true]) (rcf (enters_of Tryz.func32 rfl rfl)) (KB.out W13) rfl fun W14 hM14=>?_
 simp only[nmA]
 refine Ad (.tuple #[Aa x,.bool true]) ?_
 simp only[nmA]
 refine Ad (Aa x) ?_
 simp only[nmA]
 refine Ad (.bool true) ?_
 simp only[nmA]
 refine At hM14 (ob:=.cells z4 36 (0,0)) (fun W=>Ab rfl (Bk W)) rfl fun b5 W15 hM15=>?_
 simp only[nmA]
 refine Av hM15 0 (cs:=(elR x)) rfl rfl rfl rfl Aw rfl (Ay x) rfl rfl fun W16 hM16=>?_
 simp only[nm2,nm3] at hM16
 refine Ad (.bool true) ?_
 simp only[nmA]
 refine wpList_nil ?_
 ((iterate 4 go_step);refine wp_region_lit ?_)
 refine Ad (.bool true) ?_
 simp only[nmA]
 refine Ac (v:=.bool false) (fun W=>Df W rfl rfl rfl) rfl ?_
 simp only[nmA]
 refine wpList_nil ?_
 ((iterate 7 go_step);refine wp_region_lit ?_)
 refine AD hM16 0 (v:=Aa x) rfl rfl rfl rfl Aw rfl ?_
 simp only[nmA]
 refine AD hM16 1 (v:=Aa m) rfl rfl rfl rfl Aw rfl ?_
 simp only[nmA]
 refine Ah hM16 (args:=#[Aa x,Aa m]) (v:=.tuple #[pv4 a,.int .i64 0]) (rcf (enters_of Tryz.func33 rfl rfl)) (KM.out W16) rfl fun W17 hM17=>?_
 simp only[nmA]
 refine Ad (.tuple #[pv4 a,.int .i64 0]) ?_
 simp only[nmA]
 refine Ad (pv4 a) ?_
 simp only[nmA]
 refine Ad (.int .i64 0) ?_
 simp only[nmA]
 refine Av hM17 4 (cs:=((pc4 a))) rfl rfl rfl rfl AS rfl (Cf _) rfl rfl fun W18 hM18=>?_
 simp only[nm2,nm3] at hM18
 refine Ba hM18 3 (cs':=#[.int .i64 0]) rfl rfl rfl rfl (by show 0<1;decide) (rfl) Be rfl rfl rfl fun W19 hM19=>?_
 simp only[nm2,nm3] at hM19
 refine wpList_nil ?_
 ((iterate 4 go_step);refine Ak 6 HMIX.out (by decide) (by kernel_rfl) (by kernel_rfl) ?_)
 refine AM (.bool false) ?_;simp only[nmA]
 refine AM (.bool false) ?_;simp only[nmA]
 refine AZ rfl rfl ?_;simp only[nmA]
 refine AZ rfl rfl ?_;simp only[nmA]
 refine AZ rfl rfl ?_;simp only[nmA]
 refine AM (.bool false) ?_;simp only[nmA]
 refine AO fun d os=>?_
 refine Az fun hap=>?_
 have hM20:=hM19.calls (below_regrown W19 d os)
 clear hap 
 generalize grow (redrawn W19 d) os=W20 at hM20 ⊢
 refine wpAny_done (by kernel_rfl) ?_ _
 ((iterate 8 go_step);refine wp_region_lit ?_)
 refine Ad (.bool false) ?_
 simp only[nmA]
 refine wpList_nil ?_
 have hMd:=hM20.drew
 ((iterate 7 go_step);refine wp_region_noPanic (wp_region_held_drew HMIX.out (S:=fun w1=>w1.heap[b1]?=some (.cells ((pc4 a)) 39 (0,0))∧w1.heap[b2]?=some (.cells #[.int .i64 0] 27 (0,0))) (⟨hMd.get 4 rfl,hMd.get 3 rfl⟩) fun hS=>?_))
 change wpAnyH _ _ _ _ _ 4 _ _ _
 generalize W20.drew=W21 at hMd hS ⊢
 have hM21:=hMd
 clear hMd
 refine Ka 0 59 #[true,false,false,false] (by kernel_rfl) (v:=pv4 a) (cs:=((pc4 a))) (b:=b1) rfl rfl rfl rfl (fun W hW=>hW.1) rfl AS (by kernel_rfl) (by kernel_rfl) (by kernel_rfl) rfl hS ?_
 simp only[nmA]
 refine K6 1 60 #[true,true,false,false] (by kernel_rfl) (v:=.int .i64 0) (cs:=#[.int .i64 0]) (b:=b2) rfl rfl rfl rfl (fun W hW=>hW.2) rfl Be (by kernel_rfl) (by kernel_rfl) (by kernel_rfl) rfl hS ?_
 simp only[nmA]
 refine GL (n:=2) #[true,true,true,false] (by kernel_rfl) (by kernel_rfl) rfl hM21 4 (cs:=((pc4 a))) rfl rfl rfl rfl AS rfl (Cf _) rfl rfl (fun W hW=>⟨hW.get 4 rfl,hW.get 3 rfl⟩) fun W22 hM22=>?_
 simp only[nm2,nm3] at hM22
 refine Jw (n:=3) #[true,true,true,true] (by kernel_rfl) (by kernel_rfl) rfl hM22 3 (cs':=#[.int .i64 0]) rfl rfl rfl rfl (by show 0<1;decide) (rfl) Be rfl rfl rfl (fun W hW=>⟨hW.get 4 rfl,hW.get 3 rfl⟩) fun W23 hM23=>?_
 simp only[nm2,nm3] at hM23
 refine wpAnyH_done (by kernel_rfl) ?_ _
 refine NoPanic.normal ?_
 ((iterate 3 go_step);refine Ea rfl (enters_of Tryz.func26 rfl rfl) ((Hu _ _ _ 3 4 _ _ 0 _ hM23 rfl rfl rfl).mono ?_))
 rintro E u w' ⟨rfl,rfl,hMF⟩
 rw[if_pos rfl] at hMF
 exact⟨rfl,rfl,_,CI Tryz.results10 rfl rfl (hMF.load 4 rfl AS) (FK (hMF.get 3 rfl) rfl Be),rfl,hMF.below⟩
theorem aE (s:ByteArray) (hs:s.size=32) (N m x:Nat) (hN:leN s.data.toList=N) (em:m=N%(9223372036854775808*B64^3)) (hbit:CF N 255=1) (hm:m<PN) (ex:x=Bu iV (sqR m)) (hok:okN iV (sqR m)=true) (h0:¬ x=0) (w:World):Calls Tryz.prog 10 #[.string s] w fun E w'=>E=.returned (.tuple #[pv4 ((G9 (x,m,1,x*m%PN))),.int .i64 0])∧Below w.heap.size w w':=by
 have HMIX:=Lh (show Tryz.prog.follows .mixedOrders=true by kernel_rfl)
 have KO:=Lh (fun w=>Gh s w hs)
 rw[hN] at KO
 clear hN
 have hx:x<PN:=by rw[ex];exact BI _
 have KB:=Lh (fun w=>GM m w hm)
 rw[← ex,hok] at KB
 have hon:On (fz x,fz m):=by rw[ex];exact Jx m hok
 have oka:Ok4 (x,m,1,x*m%PN) ((fz x,fz m):Pt):=J3 x m _ hx hm hon rfl rfl
 have KM:=Lh (fun w=>MJ x m hx hm hon w)
 obtain⟨a,ea⟩:=exza (((x,m,1,x*m%PN):N4))
 rw[← ea] at oka KM ⊢
 clear hon ex hok
 go_enter_defers Tryz.func10,Tryz.ntmps10
 have hM0:=Mem.start w
 (go_step;go_step;refine wp_region_lit ?_)
 refine At hM0 (ob:=.cells z16 39 (0,0)) (fun W=>Ab rfl (Ew W)) rfl fun b1 W1 hM1=>?_
 simp only[nmA]
 refine At hM1 (ob:=.cells #[.int .i64 0] 27 (0,0)) (fun W=>Ab rfl (Mu W)) rfl fun b2 W2 hM2=>?_
 simp only[nmA]
 refine wpList_nil ?_
 ((iterate 3 go_step);refine wp_region_lit ?_)
 refine Ac (v:=.func (.func 26) #[] #[.pointer (some ⟨b2,0,none⟩),.pointer (some ⟨b1,0,none⟩)]) (fun W=>Bs rfl (by simp[Instr.makeFunc,Act.eval])) rfl ?_
 simp only[nmA]
 refine Hy (d:={ target:=.fn (.func 26) #[.pointer (some ⟨b2,0,none⟩),.pointer (some ⟨b1,0,none⟩)],args:=#[] }) (fun W=>EJ W rfl rfl) rfl rfl ?_
 dsimp only
 refine wpList_nil ?_
 ((iterate 3 go_step);refine wp_region_lit ?_)
 refine Ad (.string s) ?_
 simp only[nmA]
 refine Ah hM2 (args:=#[.string s]) (v:=.tuple #[Aa N,.int .i64 0]) (rcf (enters_of Tryz.func28 rfl rfl)) (KO.out W2) rfl fun W3 hM3=>?_
 simp only[nmA]
 refine Ad (.tuple #[Aa N,.int .i64 0]) ?_
 simp only[nmA]
 refine Ad (Aa N) ?_
 simp only[nmA]
 refine Ad (.int .i64 0) ?_
 simp only[nmA]
 refine At hM3 (ob:=.cells z4 24 (0,0)) (fun W=>Ab rfl (Gb W)) rfl fun b3 W4 hM4=>?_
 simp only[nmA]
 refine Av hM4 0 (cs:=(elR N)) rfl rfl rfl rfl Bx rfl (Ay N) rfl rfl fun W5 hM5=>?_
 simp only[nm2,nm3] at hM5
 refine Ba hM5 1 (cs':=#[.int .i64 0]) rfl rfl rfl rfl (by show 0<1;decide) (rfl) Be rfl rfl rfl fun W6 hM6=>?_
 simp only[nm2,nm3] at hM6
 refine wpList_nil ?_
 ((iterate 4 go_step);refine wp_region_lit ?_)
 refine Bc hM6 1 (v:=.int .i64 0) rfl rfl rfl rfl Be rfl ?_
 simp only[nmA]
 refine Ac (v:=.bool false) (fun W=>Cl W rfl rfl rfl rfl) rfl ?_
 simp only[nmA]
 refine wpList_nil ?_
 ((iterate 7 go_step);refine wp_region_lit ?_)
 refine AD hM6 0 (v:=Aa N) rfl rfl rfl rfl Bx rfl ?_
 simp only[nmA]
 refine Ah hM6 (args:=#[Aa N,.int .i64 255]) (v:=.int .u64 ((1:Nat):Int)) (rcf (enters_of Tryz.func29 rfl rfl)) (Mg N 1 hbit W6) rfl fun W7 hM7=>?_
 simp only[nmA]
 refine Ac (v:=.bool true) (fun W=>Ag rfl rfl rfl (LS _ _ W)) rfl ?_
 simp only[nmA]
 refine Ad (.bool true) ?_
 simp only[nmA]
 refine wpList_nil ?_
 ((iterate 3 go_step);refine wp_region_lit ?_)
 refine Ac (v:=.pointer (some ⟨b3,3,none⟩)) (fun W=>Ar rfl rfl rfl (D8 b3 W)) rfl ?_
 simp only[nmA]
 refine Bc hM7 0 (v:=.int .u64 (wd N 3:Int)) rfl rfl rfl rfl BN rfl ?_
 simp only[nmA]
 refine Ac (v:=.int .u64 (((wd N 3)%9223372036854775808:Nat):Int)) (fun W=>Ag rfl rfl rfl (HU (wd N 3) (Cb _ _) _ _ W)) rfl ?_
 simp only[nmA]
 refine Ac (v:=.pointer (some ⟨b3,3,none⟩)) (fun W=>Ar rfl rfl rfl (D8 b3 W)) rfl ?_
 simp only[nmA]
 refine Ba hM7 0 (cs':=(elR m)) rfl rfl rfl rfl (by show 3<4;decide) (by rw[em];exact Fb N) BN rfl rfl rfl fun W8 hM8=>?_
 simp only[nm2,nm3] at hM8
 refine wpList_nil ?_
 ((iterate 3 go_step);refine wp_region_lit ?_)
 refine AD hM8 0 (v:=Aa m) rfl rfl rfl rfl Bx rfl ?_
 simp only[nmA]
 refine Ah hM8 (args:=#[Aa m]) (v:=.string ⟨(byL m).toArray⟩) (rcf (enters_of Tryz.func31 rfl rfl)) (Er m W8) rfl fun W9 hM9=>?_
 simp only[nmA]
 refine Ah hM9 (args:=#[.string ⟨(byL m).toArray⟩]) (v:=.tuple #[Aa m,.int .i64 0]) (rcf (enters_of Tryz.func30 rfl rfl)) (OZ m hm W9) rfl fun W10 hM10=>?_
 simp only[nmA]
 refine Ad (.tuple #[Aa m,.int .i64 0]) ?_
 simp only[nmA]
 refine Ad (Aa m) ?_
 simp only[nmA]
 refine Ad (.int .i64 0) ?_
 simp only[nmA]
 refine At hM10 (ob:=.cells z4 36 (0,0)) (fun W=>Ab rfl (Bk W)) rfl fun b4 W11 hM11=>?_
 simp only[nmA]
 refine Av hM11 0 (cs:=(elR m)) rfl rfl rfl rfl Aw rfl (Ay m) rfl rfl fun W12 hM12=>?_
 simp only[nm2,nm3] at hM12
 refine Ba hM12 2 (cs':=#[.int .i64 0]) rfl rfl rfl rfl (by show 0<1;decide) (rfl) Be rfl rfl rfl fun W13 hM13=>?_
 simp only[nm2,nm3] at hM13
 refine wpList_nil ?_
 ((iterate 4 go_step);refine wp_region_lit ?_)
 refine Bc hM13 2 (v:=.int .i64 0) rfl rfl rfl rfl Be rfl ?_
 simp only[nmA]
 refine Ac (v:=.bool false) (fun W=>Cl W rfl rfl rfl rfl) rfl ?_
 simp only[nmA]
 refine wpList_nil ?_
 ((iterate 7 go_step);refine wp_region_lit ?_)
 refine AD hM13 0 (v:=Aa m) rfl rfl rfl rfl Aw rfl ?_
 simp only[nmA]
 refine Ah hM13 (args:=#[Aa m]) (v:=.tuple #[Aa x,.bool true]) (rcf (enters_of Tryz.func32 rfl rfl)) (KB.out W13) rfl fun W14 hM14=>?_
 simp only[nmA]
 refine Ad (.tuple #[Aa x,.bool true]) ?_
 simp only[nmA]
 refine Ad (Aa x) ?_
 simp only[nmA]
 refine Ad (.bool true) ?_
 simp only[nmA]
 refine At hM14 (ob:=.cells z4 36 (0,0)) (fun W=>Ab rfl (Bk W)) rfl fun b5 W15 hM15=>?_
 simp only[nmA]
 refine Av hM15 0 (cs:=(elR x)) rfl rfl rfl rfl Aw rfl (Ay x) rfl rfl fun W16 hM16=>?_
 simp only[nm2,nm3] at hM16
 refine Ad (.bool true) ?_
 simp only[nmA]
 refine wpList_nil ?_
 ((iterate 4 go_step);refine wp_region_lit ?_)
 refine Ad (.bool true) ?_
 simp only[nmA]
 refine Ac (v:=.bool false) (fun W=>Df W rfl rfl rfl) rfl ?_
 simp only[nmA]
 refine wpList_nil ?_
 ((iterate 7 go_step);refine wp_region_lit ?_)
 refine AD hM16 0 (v:=Aa x) rfl rfl rfl rfl Aw rfl ?_
 simp only[nmA]
 refine AD hM16 1 (v:=Aa m) rfl rfl rfl rfl Aw rfl ?_
 simp only[nmA]
 refine Ah hM16 (args:=#[Aa x,Aa m]) (v:=.tuple #[pv4 a,.int .i64 0]) (rcf (enters_of Tryz.func33 rfl rfl)) (KM.out W16) rfl fun W17 hM17=>?_
 simp only[nmA]
 refine Ad (.tuple #[pv4 a,.int .i64 0]) ?_
 simp only[nmA]
 refine Ad (pv4 a) ?_
 simp only[nmA]
 refine Ad (.int .i64 0) ?_
 simp only[nmA]
 refine Av hM17 4 (cs:=((pc4 a))) rfl rfl rfl rfl AS rfl (Cf _) rfl rfl fun W18 hM18=>?_
 simp only[nm2,nm3] at hM18
 refine Ba hM18 3 (cs':=#[.int .i64 0]) rfl rfl rfl rfl (by show 0<1;decide) (rfl) Be rfl rfl rfl fun W19 hM19=>?_
 simp only[nm2,nm3] at hM19
 refine wpList_nil ?_
 ((iterate 4 go_step);refine Ak 6 HMIX.out (by decide) (by kernel_rfl) (by kernel_rfl) ?_)
 refine AM (.bool true) ?_;simp only[nmA]
 refine AM (.bool true) ?_;simp only[nmA]
 refine Ao hM19 0 (v:=Aa x) rfl rfl rfl rfl Aw rfl rfl ?_;simp only[nmA]
 refine Am (args:=#[.int .u64 0]) (v:=Aa 0) (rcf (enters_of Tryz.func34 rfl rfl)) (fun W _=>Cq 0 (by decide) W) rfl rfl ?_;simp only[nmA]
 refine As (v:=.bool false) (fun W=>Ag rfl rfl rfl (by rw[show false=decide (x=0) from (decide_eq_false h0).symm];exact Mq x 0 _ _ W (Bv hx) (Bv Au))) rfl rfl ?_;simp only[nmA]
 refine AM (.bool false) ?_;simp only[nmA]
 refine AO fun d os=>?_
 refine Az fun hap=>?_
 have hM20:=hM19.calls (below_regrown W19 d os)
 clear hap 
 generalize grow (redrawn W19 d) os=W20 at hM20 ⊢
 refine wpAny_done (by kernel_rfl) ?_ _
 ((iterate 8 go_step);refine wp_region_lit ?_)
 refine Ad (.bool true) ?_
 simp only[nmA]
 refine wpList_nil ?_
 ((iterate 3 go_step);refine wp_region_lit ?_)
 refine AD hM20 4 (v:=pv4 a) rfl rfl rfl rfl AS rfl ?_
 simp only[nmA]
 refine Ah hM20 (args:=#[pv4 a]) (v:=pv4 ((G9 a))) (rcf (enters_of Tryz.func35 rfl rfl)) (Xy oka W20) rfl fun W21 hM21=>?_
 simp only[nmA]
 refine Av hM21 4 (cs:=((pc4 ((G9 a))))) rfl rfl rfl rfl AS rfl (Cf _) rfl rfl fun W22 hM22=>?_
 simp only[nm2,nm3] at hM22
 refine wpList_nil ?_
 have hMd:=hM22.drew
 ((iterate 3 go_step);refine wp_region_noPanic (wp_region_held_drew HMIX.out (S:=fun w1=>w1.heap[b1]?=some (.cells ((pc4 ((G9 a)))) 39 (0,0))∧w1.heap[b2]?=some (.cells #[.int .i64 0] 27 (0,0))) (⟨hMd.get 4 rfl,hMd.get 3 rfl⟩) fun hS=>?_))
 change wpAnyH _ _ _ _ _ 4 _ _ _
 generalize W22.drew=W23 at hMd hS ⊢
 have hM23:=hMd
 clear hMd
 refine Ka 0 59 #[true,false,false,false] (by kernel_rfl) (v:=pv4 ((G9 a))) (cs:=((pc4 ((G9 a))))) (b:=b1) rfl rfl rfl rfl (fun W hW=>hW.1) rfl AS (by kernel_rfl) (by kernel_rfl) (by kernel_rfl) rfl hS ?_
 simp only[nmA]
 refine K6 1 60 #[true,true,false,false] (by kernel_rfl) (v:=.int .i64 0) (cs:=#[.int .i64 0]) (b:=b2) rfl rfl rfl rfl (fun W hW=>hW.2) rfl Be (by kernel_rfl) (by kernel_rfl) (by kernel_rfl) rfl hS ?_
 simp only[nmA]
 refine GL (n:=2) #[true,true,true,false] (by kernel_rfl) (by kernel_rfl) rfl hM23 4 (cs:=((pc4 ((G9 a))))) rfl rfl rfl rfl AS rfl (Cf _) rfl rfl (fun W hW=>⟨hW.get 4 rfl,hW.get 3 rfl⟩) fun W24 hM24=>?_
 simp only[nm2,nm3] at hM24
 refine Jw (n:=3) #[true,true,true,true] (by kernel_rfl) (by kernel_rfl) rfl hM24 3 (cs':=#[.int .i64 0]) rfl rfl rfl rfl (by show 0<1;decide) (rfl) Be rfl rfl rfl (fun W hW=>⟨hW.get 4 rfl,hW.get 3 rfl⟩) fun W25 hM25=>?_
 simp only[nm2,nm3] at hM25
 refine wpAnyH_done (by kernel_rfl) ?_ _
 refine NoPanic.normal ?_
 ((iterate 3 go_step);refine Ea rfl (enters_of Tryz.func26 rfl rfl) ((Hu _ _ _ 3 4 _ _ 0 _ hM25 rfl rfl rfl).mono ?_))
 rintro E u w' ⟨rfl,rfl,hMF⟩
 rw[if_pos rfl] at hMF
 exact⟨rfl,rfl,_,CI Tryz.results10 rfl rfl (hMF.load 4 rfl AS) (FK (hMF.get 3 rfl) rfl Be),rfl,hMF.below⟩
end Go.Proofs.YtnaldciakclccaaGreat
