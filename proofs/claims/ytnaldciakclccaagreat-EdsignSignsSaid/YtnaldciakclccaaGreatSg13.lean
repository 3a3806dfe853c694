/- Lemmas of this proof. -/
import Derived.LoopN
import Derived.Deep.LoopGhost
import Derived.Test.YtnaldciakclccaaGreatSg12
import Derived.Test.YtnaldciakclccaaGreatSg01
import Derived.Test.YtnaldciakclccaaGreatSg07
namespace Go.Proofs.YtnaldciakclccaaGreat
set_option maxRecDepth 20000
set_option maxHeartbeats 8000000
set_option linter.unusedSimpArgs false
set_option linter.unusedVariables false
open Go.RowKit Go.Sort
theorem amod (a b n:Nat):(a%n+b%n)%n=(a+b)%n:=(Nat.add_mod a b n).symm
theorem dA:bX<PN:=OP.2.2.2.1
theorem Tg:bY<PN:=OP.2.2.2.2
theorem Xm (a c:Nat) (h:pm PN 256 P2 a 1%PN=c):IV a=c:=N0 a P2 c gg h
theorem fO:(0+PN-121665)%PN*IV 121666%PN=dN:=by
 rw[Xm 121666 37095705934669439343138083508754565189542113879843219016388785533085940283556 (by decide +kernel)]
 decide +kernel
theorem Xs  (w:World):Calls Tryz.prog 66 #[] w fun E w'=>E=.returned (Aa dN)∧Below w.heap.size w w':=by
 have HMIX:=Lh (show Tryz.prog.follows .mixedOrders=true by kernel_rfl)
 go_enter Tryz.func66,Tryz.ntmps66
 have hM0:=Mem.start w
 (go_step;go_step;refine wp_region_lit ?_)
 refine Au hM0 (ob:=.cells z4 23 (0,0)) (fun W=>Ab rfl (Dd W)) rfl fun b1 W1 hM1=>?_
 simp only[nmA]
 refine wpList_nil ?_
 ((iterate 3 go_step);refine wp_region_lit ?_)
 refine Aj hM1 (args:=#[.int .u64 0]) (v:=Aa 0) (rcf (enters_of Tryz.func68 rfl rfl)) (E6 0 (by decide) W1) rfl fun W2 hM2=>?_
 simp only[nmA]
 refine Aj hM2 (args:=#[.int .u64 121665]) (v:=Aa 121665) (rcf (enters_of Tryz.func68 rfl rfl)) (E6 121665 (by decide) W2) rfl fun W3 hM3=>?_
 simp only[nmA]
 obtain⟨v1,ev1⟩:=exza ((0+PN-121665)%PN)
 have pv1:v1<PN:=by rw[ev1];exact Nat.mod_lt _ Aw
 have Kv1:=fun W=>X6 0 121665 W (by decide +kernel) (by decide +kernel)
 simp only[← ev1] at Kv1
 refine Aj hM3 (args:=#[Aa 0,Aa 121665]) (v:=Aa v1) (rcf (enters_of Tryz.func114 rfl rfl)) (Kv1 W3) rfl fun W4 hM4=>?_
 simp only[nmA]
 refine Aj hM4 (args:=#[.int .u64 121666]) (v:=Aa 121666) (rcf (enters_of Tryz.func68 rfl rfl)) (E6 121666 (by decide) W4) rfl fun W5 hM5=>?_
 simp only[nmA]
 obtain⟨v2,ev2⟩:=exza (IV 121666)
 have pv2:v2<PN:=by rw[ev2];exact Ld _
 have Kv2:=fun W=>TG 121666 W (by decide +kernel)
 simp only[← ev2] at Kv2
 refine Aj hM5 (args:=#[Aa 121666]) (v:=Aa v2) (rcf (enters_of Tryz.func69 rfl rfl)) (Kv2 W5) rfl fun W6 hM6=>?_
 simp only[nmA]
 obtain⟨v3,ev3⟩:=exza (v1*v2%PN)
 have pv3:v3<PN:=by rw[ev3];exact Nat.mod_lt _ Aw
 have Kv3:=fun W=>Eo v1 v2 W pv1 pv2
 simp only[← ev3] at Kv3
 refine Aj hM6 (args:=#[Aa v1,Aa v2]) (v:=Aa v3) (rcf (enters_of Tryz.func67 rfl rfl)) (Kv3 W6) rfl fun W7 hM7=>?_
 simp only[nmA]
 refine Ax hM7 0 (cs:=(elR v3)) rfl rfl rfl rfl AY rfl (AB v3) rfl rfl fun W8 hM8=>?_
 simp only[nm2,nm3] at hM8
 refine wpList_nil ?_
 ((iterate 3 go_step);refine bodyPost_ret (v:=Aa v3) (Ao Tryz.results66 rfl (hM8.load 0 rfl AY)) rfl ⟨?_,hM8.below⟩)
 exact by rw[ev3,ev2,ev1,fO]
theorem WC  (w:World):Calls Tryz.prog 112 #[] w fun E w'=>E=.returned (rpV 0 1 1)∧Below w.heap.size w w':=by
 have HMIX:=Lh (show Tryz.prog.follows .mixedOrders=true by kernel_rfl)
 go_enter Tryz.func112,Tryz.ntmps112
 have hM0:=Mem.start w
 (go_step;go_step;refine wp_region_lit ?_)
 refine Au hM0 (ob:=.cells z12 55 (0,0)) (fun W=>Ab rfl (LU W)) rfl fun b1 W1 hM1=>?_
 simp only[nmA]
 refine wpList_nil ?_
 ((iterate 3 go_step);refine wp_region_lit ?_)
 refine Aj hM1 (args:=#[.int .u64 1]) (v:=Aa 1) (rcf (enters_of Tryz.func68 rfl rfl)) (E6 1 (by decide) W1) rfl fun W2 hM2=>?_
 simp only[nmA]
 refine Aj hM2 (args:=#[.int .u64 1]) (v:=Aa 1) (rcf (enters_of Tryz.func68 rfl rfl)) (E6 1 (by decide) W2) rfl fun W3 hM3=>?_
 simp only[nmA]
 refine Ac (v:=rpV 0 1 1) (fun W=>Be rfl (by simp[Act.eval]) (iv 1 1 W)) rfl ?_
 simp only[nmA]
 refine Ax hM3 0 (cs:=((rpL 0 1 1).toArray)) rfl rfl rfl rfl DX rfl (Gz 0 1 1) rfl rfl fun W4 hM4=>?_
 simp only[nm2,nm3] at hM4
 refine wpList_nil ?_
 ((iterate 3 go_step);refine bodyPost_ret (v:=rpV 0 1 1) (Ao Tryz.results112 rfl (hM4.load 0 rfl DX)) rfl ⟨?_,hM4.below⟩)
 exact rfl
theorem Vo (X Y:Nat) (w:World):Calls Tryz.prog 72 #[Aa X,Aa Y] w fun E w'=>E=.returned (rpV X Y 1)∧Below w.heap.size w w':=by
 have HMIX:=Lh (show Tryz.prog.follows .mixedOrders=true by kernel_rfl)
 go_enter Tryz.func72,Tryz.ntmps72
 have hM0:=Mem.start w
 (go_step;go_step;refine wp_region_lit ?_)
 refine Au hM0 (ob:=.cells (elR X) 23 (0,0)) (fun W=>AP rfl rfl (LH X W)) rfl fun b1 W1 hM1=>?_
 simp only[nmA]
 refine Au hM1 (ob:=.cells (elR Y) 23 (0,0)) (fun W=>AP rfl rfl (LH Y W)) rfl fun b2 W2 hM2=>?_
 simp only[nmA]
 refine Au hM2 (ob:=.cells z12 55 (0,0)) (fun W=>Ab rfl (LU W)) rfl fun b3 W3 hM3=>?_
 simp only[nmA]
 refine wpList_nil ?_
 ((iterate 3 go_step);refine An 4 HMIX.out (by decide) (by kernel_rfl) (by kernel_rfl) ?_)
 refine Ar hM3 2 (v:=Aa X) rfl rfl rfl rfl AY rfl rfl ?_;simp only[nmA]
 refine Ar hM3 1 (v:=Aa Y) rfl rfl rfl rfl AY rfl rfl ?_;simp only[nmA]
 refine Aq (args:=#[.int .u64 1]) (v:=Aa 1) (rcf (enters_of Tryz.func68 rfl rfl)) (fun W _=>E6 1 (by decide) W) rfl rfl ?_;simp only[nmA]
 refine As (v:=rpV X Y 1) (fun W=>Be rfl (by simp[Act.eval]) (bdR X Y 1 W)) rfl rfl ?_;simp only[nmA]
 refine AX fun d os=>?_
 refine AF fun hap=>?_
 have hM4:=hM3.calls (below_regrown W3 d os)
 clear hap 
 generalize grow (redrawn W3 d) os=W4 at hM4 ⊢
 change wpAny _ _ _ _ 1 _ _ _
 refine A8 (n:=4) (by kernel_rfl) rfl hM4 0 (cs:=((rpL X Y 1).toArray)) rfl rfl rfl rfl DX rfl (Gz X Y 1) rfl rfl fun W5 hM5=>?_
 simp only[nm2,nm3] at hM5
 refine wpAny_done (by kernel_rfl) ?_ _
 ((iterate 3 go_step);refine bodyPost_ret (v:=rpV X Y 1) (Ao Tryz.results72 rfl (hM5.load 0 rfl DX)) rfl ⟨?_,hM5.below⟩)
 exact rfl
theorem cd (X Y Z:Nat) (hX:X<PN) (hY:Y<PN) (hZ:Z<PN) (w:World):Calls Tryz.prog 64 #[rpV X Y Z] w fun E w'=>E=.returned (.tuple #[Aa (X*IV Z%PN),Aa (Y*IV Z%PN)])∧Below w.heap.size w w':=by
 have HMIX:=Lh (show Tryz.prog.follows .mixedOrders=true by kernel_rfl)
 go_enter Tryz.func64,Tryz.ntmps64
 have hM0:=Mem.start w
 (go_step;go_step;refine wp_region_lit ?_)
 refine Au hM0 (ob:=.cells ((rpL X Y Z).toArray) 55 (0,0)) (fun W=>AP rfl rfl (MQ X Y Z W)) rfl fun b1 W1 hM1=>?_
 simp only[nmA]
 refine Au hM1 (ob:=.cells z4 23 (0,0)) (fun W=>Ab rfl (Dd W)) rfl fun b2 W2 hM2=>?_
 simp only[nmA]
 refine Au hM2 (ob:=.cells z4 23 (0,0)) (fun W=>Ab rfl (Dd W)) rfl fun b3 W3 hM3=>?_
 simp only[nmA]
 refine wpList_nil ?_
 ((iterate 3 go_step);refine wp_region_lit ?_)
 refine Ac (v:=.pointer (some ⟨b1,8,none⟩)) (fun W=>AM rfl rfl (Yt b1 W)) rfl ?_
 simp only[nmA]
 refine GI hM3 2 (v:=Aa Z) (sub:=elR Z) rfl rfl rfl rfl rfl AY rfl ?_
 simp only[nmA]
 obtain⟨v1,ev1⟩:=exza (IV Z)
 have pv1:v1<PN:=by rw[ev1];exact Ld _
 have Kv1:=fun W=>TG Z W hZ
 simp only[← ev1] at Kv1
 refine Aj hM3 (args:=#[Aa Z]) (v:=Aa v1) (rcf (enters_of Tryz.func69 rfl rfl)) (Kv1 W3) rfl fun W4 hM4=>?_
 simp only[nmA]
 refine Au hM4 (ob:=.cells z4 23 (0,0)) (fun W=>Ab rfl (Dd W)) rfl fun b4 W5 hM5=>?_
 simp only[nmA]
 refine Ax hM5 0 (cs:=(elR v1)) rfl rfl rfl rfl AY rfl (AB v1) rfl rfl fun W6 hM6=>?_
 simp only[nm2,nm3] at hM6
 refine wpList_nil ?_
 ((iterate 3 go_step);refine An 8 HMIX.out (by decide) (by kernel_rfl) (by kernel_rfl) ?_)
 refine As (v:=.pointer (some ⟨b1,0,none⟩)) (fun W=>AM rfl rfl (QK b1 W)) rfl rfl ?_;simp only[nmA]
 refine B0 hM6 3 (v:=Aa X) (sub:=elR X) rfl rfl rfl rfl rfl AY rfl rfl ?_;simp only[nmA]
 refine Ar hM6 0 (v:=Aa v1) rfl rfl rfl rfl AY rfl rfl ?_;simp only[nmA]
 obtain⟨v2,ev2⟩:=exza (X*v1%PN)
 have pv2:v2<PN:=by rw[ev2];exact Nat.mod_lt _ Aw
 have Kv2:=fun W=>Eo X v1 W hX pv1
 simp only[← ev2] at Kv2
 refine Aq (args:=#[Aa X,Aa v1]) (v:=Aa v2) (rcf (enters_of Tryz.func67 rfl rfl)) (fun W _=>Kv2 W) rfl rfl ?_;simp only[nmA]
 refine As (v:=.pointer (some ⟨b1,4,none⟩)) (fun W=>AM rfl rfl (Pg b1 W)) rfl rfl ?_;simp only[nmA]
 refine B0 hM6 3 (v:=Aa Y) (sub:=elR Y) rfl rfl rfl rfl rfl AY rfl rfl ?_;simp only[nmA]
 refine Ar hM6 0 (v:=Aa v1) rfl rfl rfl rfl AY rfl rfl ?_;simp only[nmA]
 obtain⟨v3,ev3⟩:=exza (Y*v1%PN)
 have pv3:v3<PN:=by rw[ev3];exact Nat.mod_lt _ Aw
 have Kv3:=fun W=>Eo Y v1 W hY pv1
 simp only[← ev3] at Kv3
 refine Aq (args:=#[Aa Y,Aa v1]) (v:=Aa v3) (rcf (enters_of Tryz.func67 rfl rfl)) (fun W _=>Kv3 W) rfl rfl ?_;simp only[nmA]
 refine AX fun d os=>?_
 refine AF fun hap=>?_
 have hM7:=hM6.calls (below_regrown W6 d os)
 clear hap 
 generalize grow (redrawn W6 d) os=W7 at hM7 ⊢
 change wpAny _ _ _ _ 2 _ _ _
 refine A8 (n:=8) (by kernel_rfl) rfl hM7 2 (cs:=(elR v2)) rfl rfl rfl rfl AY rfl (AB v2) rfl rfl fun W8 hM8=>?_
 simp only[nm2,nm3] at hM8
 refine A8 (n:=9) (by kernel_rfl) rfl hM8 1 (cs:=(elR v3)) rfl rfl rfl rfl AY rfl (AB v3) rfl rfl fun W9 hM9=>?_
 simp only[nm2,nm3] at hM9
 refine wpAny_done (by kernel_rfl) ?_ _
 ((iterate 3 go_step);refine bodyPost_ret (v:=.tuple #[Aa v2,Aa v3]) (CI Tryz.results64 rfl rfl (hM9.load 2 rfl AY) (hM9.load 1 rfl AY)) rfl ⟨?_,hM9.below⟩)
 exact by rw[ev3,ev2,ev1]
def sqR (Y:Nat):Nat:=(Y*Y%PN+PN-1)%PN*IV ((dN*(Y*Y%PN)%PN+1)%PN)%PN
theorem YC (Y:Nat):sqR Y<PN:=Nat.mod_lt _ Aw
theorem Pj (Y:Nat) (w:World) (hY:Y<PN):Calls Tryz.prog 71 #[Aa Y] w fun E w'=>E=.returned (Aa (sqR Y))∧Below w.heap.size w w':=by
 have HMIX:=Lh (show Tryz.prog.follows .mixedOrders=true by kernel_rfl)
 go_enter Tryz.func71,Tryz.ntmps71
 have hM0:=Mem.start w
 (go_step;go_step;refine wp_region_lit ?_)
 refine Au hM0 (ob:=.cells (elR Y) 23 (0,0)) (fun W=>AP rfl rfl (LH Y W)) rfl fun b1 W1 hM1=>?_
 simp only[nmA]
 refine Au hM1 (ob:=.cells z4 23 (0,0)) (fun W=>Ab rfl (Dd W)) rfl fun b2 W2 hM2=>?_
 simp only[nmA]
 refine wpList_nil ?_
 ((iterate 3 go_step);refine wp_region_lit ?_)
 refine AG hM2 1 (v:=Aa Y) rfl rfl rfl rfl AY rfl ?_
 simp only[nmA]
 refine AG hM2 1 (v:=Aa Y) rfl rfl rfl rfl AY rfl ?_
 simp only[nmA]
 obtain⟨v1,ev1⟩:=exza (Y*Y%PN)
 have pv1:v1<PN:=by rw[ev1];exact Nat.mod_lt _ Aw
 have Kv1:=fun W=>Eo Y Y W hY hY
 simp only[← ev1] at Kv1
 refine Aj hM2 (args:=#[Aa Y,Aa Y]) (v:=Aa v1) (rcf (enters_of Tryz.func67 rfl rfl)) (Kv1 W2) rfl fun W3 hM3=>?_
 simp only[nmA]
 refine Au hM3 (ob:=.cells z4 23 (0,0)) (fun W=>Ab rfl (Dd W)) rfl fun b3 W4 hM4=>?_
 simp only[nmA]
 refine Ax hM4 0 (cs:=(elR v1)) rfl rfl rfl rfl AY rfl (AB v1) rfl rfl fun W5 hM5=>?_
 simp only[nm2,nm3] at hM5
 refine wpList_nil ?_
 ((iterate 3 go_step);refine An 10 HMIX.out (by decide) (by kernel_rfl) (by kernel_rfl) ?_)
 refine Ar hM5 0 (v:=Aa v1) rfl rfl rfl rfl AY rfl rfl ?_;simp only[nmA]
 refine Aq (args:=#[.int .u64 1]) (v:=Aa 1) (rcf (enters_of Tryz.func68 rfl rfl)) (fun W _=>E6 1 (by decide) W) rfl rfl ?_;simp only[nmA]
 obtain⟨v2,ev2⟩:=exza ((v1+PN-1)%PN)
 have pv2:v2<PN:=by rw[ev2];exact Nat.mod_lt _ Aw
 have Kv2:=fun W=>X6 v1 1 W pv1 (by decide +kernel)
 simp only[← ev2] at Kv2
 refine Aq (args:=#[Aa v1,Aa 1]) (v:=Aa v2) (rcf (enters_of Tryz.func114 rfl rfl)) (fun W _=>Kv2 W) rfl rfl ?_;simp only[nmA]
 refine Aq (args:=#[]) (v:=Aa dN) (rcf (enters_of Tryz.func66 rfl rfl)) (fun W _=>Xs W) rfl rfl ?_;simp only[nmA]
 refine Ar hM5 0 (v:=Aa v1) rfl rfl rfl rfl AY rfl rfl ?_;simp only[nmA]
 obtain⟨v3,ev3⟩:=exza (dN*v1%PN)
 have pv3:v3<PN:=by rw[ev3];exact Nat.mod_lt _ Aw
 have Kv3:=fun W=>Eo dN v1 W UZ.2 pv1
 simp only[← ev3] at Kv3
 refine Aq (args:=#[Aa dN,Aa v1]) (v:=Aa v3) (rcf (enters_of Tryz.func67 rfl rfl)) (fun W _=>Kv3 W) rfl rfl ?_;simp only[nmA]
 refine Aq (args:=#[.int .u64 1]) (v:=Aa 1) (rcf (enters_of Tryz.func68 rfl rfl)) (fun W _=>E6 1 (by decide) W) rfl rfl ?_;simp only[nmA]
 obtain⟨v4,ev4⟩:=exza ((v3+1)%PN)
 have pv4:v4<PN:=by rw[ev4];exact Nat.mod_lt _ Aw
 have Kv4:=fun W=>Ut v3 1 W pv3 (by decide +kernel)
 simp only[← ev4] at Kv4
 refine Aq (args:=#[Aa v3,Aa 1]) (v:=Aa v4) (rcf (enters_of Tryz.func128 rfl rfl)) (fun W _=>Kv4 W) rfl rfl ?_;simp only[nmA]
 obtain⟨v5,ev5⟩:=exza (IV v4)
 have pv5:v5<PN:=by rw[ev5];exact Ld _
 have Kv5:=fun W=>TG v4 W pv4
 simp only[← ev5] at Kv5
 refine Aq (args:=#[Aa v4]) (v:=Aa v5) (rcf (enters_of Tryz.func69 rfl rfl)) (fun W _=>Kv5 W) rfl rfl ?_;simp only[nmA]
 obtain⟨v6,ev6⟩:=exza (v2*v5%PN)
 have pv6:v6<PN:=by rw[ev6];exact Nat.mod_lt _ Aw
 have Kv6:=fun W=>Eo v2 v5 W pv2 pv5
 simp only[← ev6] at Kv6
 refine Aq (args:=#[Aa v2,Aa v5]) (v:=Aa v6) (rcf (enters_of Tryz.func67 rfl rfl)) (fun W _=>Kv6 W) rfl rfl ?_;simp only[nmA]
 refine AX fun d os=>?_
 refine AF fun hap=>?_
 have hM6:=hM5.calls (below_regrown W5 d os)
 clear hap 
 generalize grow (redrawn W5 d) os=W6 at hM6 ⊢
 change wpAny _ _ _ _ 1 _ _ _
 refine A8 (n:=10) (by kernel_rfl) rfl hM6 1 (cs:=(elR v6)) rfl rfl rfl rfl AY rfl (AB v6) rfl rfl fun W7 hM7=>?_
 simp only[nm2,nm3] at hM7
 refine wpAny_done (by kernel_rfl) ?_ _
 ((iterate 3 go_step);refine bodyPost_ret (v:=Aa v6) (Ao Tryz.results71 rfl (hM7.load 1 rfl AY)) rfl ⟨?_,hM7.below⟩)
 exact by unfold sqR;rw[ev6,ev5,ev4,ev3,ev2,ev1]
theorem So (X1 Y1 Z1 X2 Y2 Z2:Nat) (hX1:X1<PN) (hY1:Y1<PN) (hZ1:Z1<PN) (hX2:X2<PN) (hY2:Y2<PN) (hZ2:Z2<PN) (w:World):Calls Tryz.prog 116 #[rpV X1 Y1 Z1,rpV X2 Y2 Z2,Aa dN] w fun E w'=>E=.returned (rpV (P8 X1 Y1 Z1 X2 Y2 Z2) (O8 X1 Y1 Z1 X2 Y2 Z2) (QB X1 Y1 Z1 X2 Y2 Z2))∧Below w.heap.size w w':=by
 unfold P8 O8 QB
 have HMIX:=Lh (show Tryz.prog.follows .mixedOrders=true by kernel_rfl)
 go_enter Tryz.func116,Tryz.ntmps116
 have hM0:=Mem.start w
 (go_step;go_step;refine wp_region_lit ?_)
 refine Au hM0 (ob:=.cells ((rpL X1 Y1 Z1).toArray) 55 (0,0)) (fun W=>AP rfl rfl (MQ X1 Y1 Z1 W)) rfl fun b1 W1 hM1=>?_
 simp only[nmA]
 refine Au hM1 (ob:=.cells ((rpL X2 Y2 Z2).toArray) 55 (0,0)) (fun W=>AP rfl rfl (MQ X2 Y2 Z2 W)) rfl fun b2 W2 hM2=>?_
 simp only[nmA]
 refine Au hM2 (ob:=.cells (elR dN) 23 (0,0)) (fun W=>AP rfl rfl (LH dN W)) rfl fun b3 W3 hM3=>?_
 simp only[nmA]
 refine Au hM3 (ob:=.cells z12 55 (0,0)) (fun W=>Ab rfl (LU W)) rfl fun b4 W4 hM4=>?_
 simp only[nmA]
 refine wpList_nil ?_
 ((iterate 3 go_step);refine wp_region_lit ?_)
 refine Ac (v:=.pointer (some ⟨b1,8,none⟩)) (fun W=>AM rfl rfl (Yt b1 W)) rfl ?_
 simp only[nmA]
 refine GI hM4 3 (v:=Aa Z1) (sub:=elR Z1) rfl rfl rfl rfl rfl AY rfl ?_
 simp only[nmA]
 refine Ac (v:=.pointer (some ⟨b2,8,none⟩)) (fun W=>AM rfl rfl (Yt b2 W)) rfl ?_
 simp only[nmA]
 refine GI hM4 2 (v:=Aa Z2) (sub:=elR Z2) rfl rfl rfl rfl rfl AY rfl ?_
 simp only[nmA]
 obtain⟨v1,ev1⟩:=exza (Z1*Z2%PN)
 have pv1:v1<PN:=by rw[ev1];exact Nat.mod_lt _ Aw
 have Kv1:=fun W=>Eo Z1 Z2 W hZ1 hZ2
 simp only[← ev1] at Kv1
 refine Aj hM4 (args:=#[Aa Z1,Aa Z2]) (v:=Aa v1) (rcf (enters_of Tryz.func67 rfl rfl)) (Kv1 W4) rfl fun W5 hM5=>?_
 simp only[nmA]
 refine Au hM5 (ob:=.cells z4 23 (0,0)) (fun W=>Ab rfl (Dd W)) rfl fun b5 W6 hM6=>?_
 simp only[nmA]
 refine Ax hM6 0 (cs:=(elR v1)) rfl rfl rfl rfl AY rfl (AB v1) rfl rfl fun W7 hM7=>?_
 simp only[nm2,nm3] at hM7
 refine wpList_nil ?_
 ((iterate 3 go_step);refine wp_region_lit ?_)
 refine AG hM7 0 (v:=Aa v1) rfl rfl rfl rfl AY rfl ?_
 simp only[nmA]
 refine AG hM7 0 (v:=Aa v1) rfl rfl rfl rfl AY rfl ?_
 simp only[nmA]
 obtain⟨v2,ev2⟩:=exza (v1*v1%PN)
 have pv2:v2<PN:=by rw[ev2];exact Nat.mod_lt _ Aw
 have Kv2:=fun W=>Eo v1 v1 W pv1 pv1
 simp only[← ev2] at Kv2
 refine Aj hM7 (args:=#[Aa v1,Aa v1]) (v:=Aa v2) (rcf (enters_of Tryz.func67 rfl rfl)) (Kv2 W7) rfl fun W8 hM8=>?_
 simp only[nmA]
 refine Au hM8 (ob:=.cells z4 23 (0,0)) (fun W=>Ab rfl (Dd W)) rfl fun b6 W9 hM9=>?_
 simp only[nmA]
 refine Ax hM9 0 (cs:=(elR v2)) rfl rfl rfl rfl AY rfl (AB v2) rfl rfl fun W10 hM10=>?_
 simp only[nm2,nm3] at hM10
 refine wpList_nil ?_
 ((iterate 3 go_step);refine An 12 HMIX.out (by decide) (by kernel_rfl) (by kernel_rfl) ?_)
 refine As (v:=.pointer (some ⟨b1,0,none⟩)) (fun W=>AM rfl rfl (QK b1 W)) rfl rfl ?_;simp only[nmA]
 refine B0 hM10 5 (v:=Aa X1) (sub:=elR X1) rfl rfl rfl rfl rfl AY rfl rfl ?_;simp only[nmA]
 refine As (v:=.pointer (some ⟨b2,0,none⟩)) (fun W=>AM rfl rfl (QK b2 W)) rfl rfl ?_;simp only[nmA]
 refine B0 hM10 4 (v:=Aa X2) (sub:=elR X2) rfl rfl rfl rfl rfl AY rfl rfl ?_;simp only[nmA]
 obtain⟨v3,ev3⟩:=exza (X1*X2%PN)
 have pv3:v3<PN:=by rw[ev3];exact Nat.mod_lt _ Aw
 have Kv3:=fun W=>Eo X1 X2 W hX1 hX2
 simp only[← ev3] at Kv3
 refine Aq (args:=#[Aa X1,Aa X2]) (v:=Aa v3) (rcf (enters_of Tryz.func67 rfl rfl)) (fun W _=>Kv3 W) rfl rfl ?_;simp only[nmA]
 refine As (v:=.pointer (some ⟨b1,4,none⟩)) (fun W=>AM rfl rfl (Pg b1 W)) rfl rfl ?_;simp only[nmA]
 refine B0 hM10 5 (v:=Aa Y1) (sub:=elR Y1) rfl rfl rfl rfl rfl AY rfl rfl ?_;simp only[nmA]
 refine As (v:=.pointer (some ⟨b2,4,none⟩)) (fun W=>AM rfl rfl (Pg b2 W)) rfl rfl ?_;simp only[nmA]
 refine B0 hM10 4 (v:=Aa Y2) (sub:=elR Y2) rfl rfl rfl rfl rfl AY rfl rfl ?_;simp only[nmA]
 obtain⟨v4,ev4⟩:=exza (Y1*Y2%PN)
 have pv4:v4<PN:=by rw[ev4];exact Nat.mod_lt _ Aw
 have Kv4:=fun W=>Eo Y1 Y2 W hY1 hY2
 simp only[← ev4] at Kv4
 refine Aq (args:=#[Aa Y1,Aa Y2]) (v:=Aa v4) (rcf (enters_of Tryz.func67 rfl rfl)) (fun W _=>Kv4 W) rfl rfl ?_;simp only[nmA]
 refine Cc (.cells z4 23 (0,0)) rfl rfl (fun A W=>Ab rfl (Dd W)) ?_;simp only[List.nil_append,List.cons_append]
 refine Cc (.cells z4 23 (0,0)) rfl rfl (fun A W=>Ab rfl (Dd W)) ?_;simp only[List.nil_append,List.cons_append]
 refine AX fun d os=>?_
 refine Bk (t:=9) rfl fun b7 lb7 gb7=>?_
 refine Bk (t:=10) rfl fun b8 lb8 gb8=>?_
 refine AF fun hap=>?_
 simp only[nmA] at hap ⊢
 have nb7b8:b7≠b8:=hap.ne 10 11 rfl rfl rfl rfl rfl rfl rfl
 have hM11:=hM10.news2 (below_regrown W10 d os) lb7 gb7 lb8 gb8 nb7b8
 clear hap lb7 gb7 lb8 gb8 nb7b8
 generalize grow (redrawn W10 d) os=W11 at hM11 ⊢
 change wpAny _ _ _ _ 2 _ _ _
 refine A8 (n:=12) (by kernel_rfl) rfl hM11 0 (cs:=(elR v3)) rfl rfl rfl rfl AY rfl (AB v3) rfl rfl fun W12 hM12=>?_
 simp only[nm2,nm3] at hM12
 refine A8 (n:=13) (by kernel_rfl) rfl hM12 1 (cs:=(elR v4)) rfl rfl rfl rfl AY rfl (AB v4) rfl rfl fun W13 hM13=>?_
 simp only[nm2,nm3] at hM13
 refine wpAny_done (by kernel_rfl) ?_ _
 ((iterate 3 go_step);refine An 6 HMIX.out (by decide) (by kernel_rfl) (by kernel_rfl) ?_)
 refine Ar hM13 5 (v:=Aa dN) rfl rfl rfl rfl AY rfl rfl ?_;simp only[nmA]
 refine Ar hM13 0 (v:=Aa v3) rfl rfl rfl rfl AY rfl rfl ?_;simp only[nmA]
 refine Ar hM13 1 (v:=Aa v4) rfl rfl rfl rfl AY rfl rfl ?_;simp only[nmA]
 obtain⟨v5,ev5⟩:=exza (v3*v4%PN)
 have pv5:v5<PN:=by rw[ev5];exact Nat.mod_lt _ Aw
 have Kv5:=fun W=>Eo v3 v4 W pv3 pv4
 simp only[← ev5] at Kv5
 refine Aq (args:=#[Aa v3,Aa v4]) (v:=Aa v5) (rcf (enters_of Tryz.func67 rfl rfl)) (fun W _=>Kv5 W) rfl rfl ?_;simp only[nmA]
 obtain⟨v6,ev6⟩:=exza (dN*v5%PN)
 have pv6:v6<PN:=by rw[ev6];exact Nat.mod_lt _ Aw
 have Kv6:=fun W=>Eo dN v5 W UZ.2 pv5
 simp only[← ev6] at Kv6
 refine Aq (args:=#[Aa dN,Aa v5]) (v:=Aa v6) (rcf (enters_of Tryz.func67 rfl rfl)) (fun W _=>Kv6 W) rfl rfl ?_;simp only[nmA]
 refine Cc (.cells z4 23 (0,0)) rfl rfl (fun A W=>Ab rfl (Dd W)) ?_;simp only[List.nil_append,List.cons_append]
 refine AX fun d os=>?_
 refine Bk (t:=11) rfl fun b9 lb9 gb9=>?_
 refine AF fun hap=>?_
 simp only[nmA] at hap ⊢
 have hM14:=hM13.news1 (below_regrown W13 d os) lb9 gb9 
 clear hap lb9 gb9
 generalize grow (redrawn W13 d) os=W14 at hM14 ⊢
 change wpAny _ _ _ _ 1 _ _ _
 refine A8 (n:=6) (by kernel_rfl) rfl hM14 0 (cs:=(elR v6)) rfl rfl rfl rfl AY rfl (AB v6) rfl rfl fun W15 hM15=>?_
 simp only[nm2,nm3] at hM15
 refine wpAny_done (by kernel_rfl) ?_ _
 ((iterate 3 go_step);refine An 12 HMIX.out (by decide) (by kernel_rfl) (by kernel_rfl) ?_)
 refine As (v:=.pointer (some ⟨b1,0,none⟩)) (fun W=>AM rfl rfl (QK b1 W)) rfl rfl ?_;simp only[nmA]
 refine B0 hM15 8 (v:=Aa X1) (sub:=elR X1) rfl rfl rfl rfl rfl AY rfl rfl ?_;simp only[nmA]
 refine As (v:=.pointer (some ⟨b2,4,none⟩)) (fun W=>AM rfl rfl (Pg b2 W)) rfl rfl ?_;simp only[nmA]
 refine B0 hM15 7 (v:=Aa Y2) (sub:=elR Y2) rfl rfl rfl rfl rfl AY rfl rfl ?_;simp only[nmA]
 obtain⟨v7,ev7⟩:=exza (X1*Y2%PN)
 have pv7:v7<PN:=by rw[ev7];exact Nat.mod_lt _ Aw
 have Kv7:=fun W=>Eo X1 Y2 W hX1 hY2
 simp only[← ev7] at Kv7
 refine Aq (args:=#[Aa X1,Aa Y2]) (v:=Aa v7) (rcf (enters_of Tryz.func67 rfl rfl)) (fun W _=>Kv7 W) rfl rfl ?_;simp only[nmA]
 refine As (v:=.pointer (some ⟨b1,4,none⟩)) (fun W=>AM rfl rfl (Pg b1 W)) rfl rfl ?_;simp only[nmA]
 refine B0 hM15 8 (v:=Aa Y1) (sub:=elR Y1) rfl rfl rfl rfl rfl AY rfl rfl ?_;simp only[nmA]
 refine As (v:=.pointer (some ⟨b2,0,none⟩)) (fun W=>AM rfl rfl (QK b2 W)) rfl rfl ?_;simp only[nmA]
 refine B0 hM15 7 (v:=Aa X2) (sub:=elR X2) rfl rfl rfl rfl rfl AY rfl rfl ?_;simp only[nmA]
 obtain⟨v8,ev8⟩:=exza (Y1*X2%PN)
 have pv8:v8<PN:=by rw[ev8];exact Nat.mod_lt _ Aw
 have Kv8:=fun W=>Eo Y1 X2 W hY1 hX2
 simp only[← ev8] at Kv8
 refine Aq (args:=#[Aa Y1,Aa X2]) (v:=Aa v8) (rcf (enters_of Tryz.func67 rfl rfl)) (fun W _=>Kv8 W) rfl rfl ?_;simp only[nmA]
 obtain⟨v9,ev9⟩:=exza ((v7+v8)%PN)
 have pv9:v9<PN:=by rw[ev9];exact Nat.mod_lt _ Aw
 have Kv9:=fun W=>Ut v7 v8 W pv7 pv8
 simp only[← ev9] at Kv9
 refine Aq (args:=#[Aa v7,Aa v8]) (v:=Aa v9) (rcf (enters_of Tryz.func128 rfl rfl)) (fun W _=>Kv9 W) rfl rfl ?_;simp only[nmA]
 refine Cc (.cells z4 23 (0,0)) rfl rfl (fun A W=>Ab rfl (Dd W)) ?_;simp only[List.nil_append,List.cons_append]
 refine AX fun d os=>?_
 refine Bk (t:=12) rfl fun b10 lb10 gb10=>?_
 refine AF fun hap=>?_
 simp only[nmA] at hap ⊢
 have hM16:=hM15.news1 (below_regrown W15 d os) lb10 gb10 
 clear hap lb10 gb10
 generalize grow (redrawn W15 d) os=W16 at hM16 ⊢
 change wpAny _ _ _ _ 1 _ _ _
 refine A8 (n:=12) (by kernel_rfl) rfl hM16 0 (cs:=(elR v9)) rfl rfl rfl rfl AY rfl (AB v9) rfl rfl fun W17 hM17=>?_
 simp only[nm2,nm3] at hM17
 refine wpAny_done (by kernel_rfl) ?_ _
 ((iterate 3 go_step);refine An 8 HMIX.out (by decide) (by kernel_rfl) (by kernel_rfl) ?_)
 refine Ar hM17 4 (v:=Aa v2) rfl rfl rfl rfl AY rfl rfl ?_;simp only[nmA]
 refine Ar hM17 1 (v:=Aa v6) rfl rfl rfl rfl AY rfl rfl ?_;simp only[nmA]
 obtain⟨v10,ev10⟩:=exza ((v2+PN-v6)%PN)
 have pv10:v10<PN:=by rw[ev10];exact Nat.mod_lt _ Aw
 have Kv10:=fun W=>X6 v2 v6 W pv2 pv6
 simp only[← ev10] at Kv10
 refine Aq (args:=#[Aa v2,Aa v6]) (v:=Aa v10) (rcf (enters_of Tryz.func114 rfl rfl)) (fun W _=>Kv10 W) rfl rfl ?_;simp only[nmA]
 refine Ar hM17 4 (v:=Aa v2) rfl rfl rfl rfl AY rfl rfl ?_;simp only[nmA]
 refine Ar hM17 1 (v:=Aa v6) rfl rfl rfl rfl AY rfl rfl ?_;simp only[nmA]
 obtain⟨v11,ev11⟩:=exza ((v2+v6)%PN)
 have pv11:v11<PN:=by rw[ev11];exact Nat.mod_lt _ Aw
 have Kv11:=fun W=>Ut v2 v6 W pv2 pv6
 simp only[← ev11] at Kv11
 refine Aq (args:=#[Aa v2,Aa v6]) (v:=Aa v11) (rcf (enters_of Tryz.func128 rfl rfl)) (fun W _=>Kv11 W) rfl rfl ?_;simp only[nmA]
 refine Cc (.cells z4 23 (0,0)) rfl rfl (fun A W=>Ab rfl (Dd W)) ?_;simp only[List.nil_append,List.cons_append]
 refine Cc (.cells z4 23 (0,0)) rfl rfl (fun A W=>Ab rfl (Dd W)) ?_;simp only[List.nil_append,List.cons_append]
 refine AX fun d os=>?_
 refine Bk (t:=13) rfl fun b11 lb11 gb11=>?_
 refine Bk (t:=14) rfl fun b12 lb12 gb12=>?_
 refine AF fun hap=>?_
 simp only[nmA] at hap ⊢
 have nb11b12:b11≠b12:=hap.ne 6 7 rfl rfl rfl rfl rfl rfl rfl
 have hM18:=hM17.news2 (below_regrown W17 d os) lb11 gb11 lb12 gb12 nb11b12
 clear hap lb11 gb11 lb12 gb12 nb11b12
 generalize grow (redrawn W17 d) os=W18 at hM18 ⊢
 change wpAny _ _ _ _ 2 _ _ _
 refine A8 (n:=8) (by kernel_rfl) rfl hM18 0 (cs:=(elR v10)) rfl rfl rfl rfl AY rfl (AB v10) rfl rfl fun W19 hM19=>?_
 simp only[nm2,nm3] at hM19
 refine A8 (n:=9) (by kernel_rfl) rfl hM19 1 (cs:=(elR v11)) rfl rfl rfl rfl AY rfl (AB v11) rfl rfl fun W20 hM20=>?_
 simp only[nm2,nm3] at hM20
 refine wpAny_done (by kernel_rfl) ?_ _
 ((iterate 3 go_step);refine An 16 HMIX.out (by decide) (by kernel_rfl) (by kernel_rfl) ?_)
 refine Ar hM20 7 (v:=Aa v1) rfl rfl rfl rfl AY rfl rfl ?_;simp only[nmA]
 refine Ar hM20 2 (v:=Aa v9) rfl rfl rfl rfl AY rfl rfl ?_;simp only[nmA]
 obtain⟨v12,ev12⟩:=exza (v1*v9%PN)
 have pv12:v12<PN:=by rw[ev12];exact Nat.mod_lt _ Aw
 have Kv12:=fun W=>Eo v1 v9 W pv1 pv9
 simp only[← ev12] at Kv12
 refine Aq (args:=#[Aa v1,Aa v9]) (v:=Aa v12) (rcf (enters_of Tryz.func67 rfl rfl)) (fun W _=>Kv12 W) rfl rfl ?_;simp only[nmA]
 refine Ar hM20 0 (v:=Aa v10) rfl rfl rfl rfl AY rfl rfl ?_;simp only[nmA]
 obtain⟨v13,ev13⟩:=exza (v12*v10%PN)
 have pv13:v13<PN:=by rw[ev13];exact Nat.mod_lt _ Aw
 have Kv13:=fun W=>Eo v12 v10 W pv12 pv10
 simp only[← ev13] at Kv13
 refine Aq (args:=#[Aa v12,Aa v10]) (v:=Aa v13) (rcf (enters_of Tryz.func67 rfl rfl)) (fun W _=>Kv13 W) rfl rfl ?_;simp only[nmA]
 refine Ar hM20 7 (v:=Aa v1) rfl rfl rfl rfl AY rfl rfl ?_;simp only[nmA]
 refine Ar hM20 5 (v:=Aa v4) rfl rfl rfl rfl AY rfl rfl ?_;simp only[nmA]
 refine Ar hM20 4 (v:=Aa v3) rfl rfl rfl rfl AY rfl rfl ?_;simp only[nmA]
 obtain⟨v14,ev14⟩:=exza ((v4+v3)%PN)
 have pv14:v14<PN:=by rw[ev14];exact Nat.mod_lt _ Aw
 have Kv14:=fun W=>Ut v4 v3 W pv4 pv3
 simp only[← ev14] at Kv14
 refine Aq (args:=#[Aa v4,Aa v3]) (v:=Aa v14) (rcf (enters_of Tryz.func128 rfl rfl)) (fun W _=>Kv14 W) rfl rfl ?_;simp only[nmA]
 obtain⟨v15,ev15⟩:=exza (v1*v14%PN)
 have pv15:v15<PN:=by rw[ev15];exact Nat.mod_lt _ Aw
 have Kv15:=fun W=>Eo v1 v14 W pv1 pv14
 simp only[← ev15] at Kv15
 refine Aq (args:=#[Aa v1,Aa v14]) (v:=Aa v15) (rcf (enters_of Tryz.func67 rfl rfl)) (fun W _=>Kv15 W) rfl rfl ?_;simp only[nmA]
 refine Ar hM20 1 (v:=Aa v11) rfl rfl rfl rfl AY rfl rfl ?_;simp only[nmA]
 obtain⟨v16,ev16⟩:=exza (v15*v11%PN)
 have pv16:v16<PN:=by rw[ev16];exact Nat.mod_lt _ Aw
 have Kv16:=fun W=>Eo v15 v11 W pv15 pv11
 simp only[← ev16] at Kv16
 refine Aq (args:=#[Aa v15,Aa v11]) (v:=Aa v16) (rcf (enters_of Tryz.func67 rfl rfl)) (fun W _=>Kv16 W) rfl rfl ?_;simp only[nmA]
 refine Ar hM20 0 (v:=Aa v10) rfl rfl rfl rfl AY rfl rfl ?_;simp only[nmA]
 refine Ar hM20 1 (v:=Aa v11) rfl rfl rfl rfl AY rfl rfl ?_;simp only[nmA]
 obtain⟨v17,ev17⟩:=exza (v10*v11%PN)
 have pv17:v17<PN:=by rw[ev17];exact Nat.mod_lt _ Aw
 have Kv17:=fun W=>Eo v10 v11 W pv10 pv11
 simp only[← ev17] at Kv17
 refine Aq (args:=#[Aa v10,Aa v11]) (v:=Aa v17) (rcf (enters_of Tryz.func67 rfl rfl)) (fun W _=>Kv17 W) rfl rfl ?_;simp only[nmA]
 refine As (v:=rpV v13 v16 v17) (fun W=>Be rfl (by simp[Act.eval]) (bdR v13 v16 v17 W)) rfl rfl ?_;simp only[nmA]
 refine AX fun d os=>?_
 refine AF fun hap=>?_
 have hM21:=hM20.calls (below_regrown W20 d os)
 clear hap 
 generalize grow (redrawn W20 d) os=W21 at hM21 ⊢
 change wpAny _ _ _ _ 1 _ _ _
 refine A8 (n:=16) (by kernel_rfl) rfl hM21 8 (cs:=((rpL v13 v16 v17).toArray)) rfl rfl rfl rfl DX rfl (Gz v13 v16 v17) rfl rfl fun W22 hM22=>?_
 simp only[nm2,nm3] at hM22
 refine wpAny_done (by kernel_rfl) ?_ _
 ((iterate 3 go_step);refine bodyPost_ret (v:=rpV v13 v16 v17) (Ao Tryz.results116 rfl (hM22.load 8 rfl DX)) rfl ⟨?_,hM22.below⟩)
 exact by rw[ev17,ev16,ev15,ev14,ev13,ev12,ev11,ev10,ev9,ev8,ev7,ev6,ev5,ev4,ev3,ev2,ev1];simp only[amod]
theorem ig:IV 5=11579208923731619542357098500868790785326998466564056403945758400791312963990:=Xm 5 _ (by decide +kernel)
theorem gD:4*IV 5%PN=bY:=by
 rw[ig]
 decide +kernel
def TV:Nat:=26187595835145689230469591415084376402084551887632582719101735842039498021991
theorem eI (Y u c r:Nat) (h1:(dN*(Y*Y%PN)%PN+1)%PN=u) (h2:IV u=c) (h3:(Y*Y%PN+PN-1)%PN*c%PN=r):sqR Y=r:=by
 unfold sqR
 rw[h1,h2,h3]
theorem fk:sqR bY=TV:=eI bY 35320460721920060721965471946471712506633951349663716574434581141966314745466 36615873626505047815401509688526422966742341385236691817538452001808239043262 TV (by decide +kernel) (Xm _ _ (by decide +kernel)) (by decide +kernel)
theorem MO:By iV (sqR bY)=bX∧okN iV (sqR bY)=true:=by
 rw[fk]
 obtain⟨e1,e2⟩:=XT iV TV 42783823269122696939284341094755422415180979639778424813682678720006717057747 (ez TV _ (by decide +kernel))
 rw[e1,e2]
 decide +kernel
theorem gX (w:World):Calls Tryz.prog 132 #[Aa 4,Aa 5] w fun e w'=>e=.returned (Aa bY)∧Below w.heap.size w w':=by
 have h:=Pb 4 5 w (by decide +kernel) (by decide +kernel)
 rw[gD] at h
 exact h
theorem dQ (I:Nat) (hI:I=IV 5) (w:World):Calls Tryz.prog 67 #[Aa 4,Aa I] w fun e w'=>e=.returned (Aa bY)∧Below w.heap.size w w':=by
 have h:=Eo 4 I w (by decide +kernel) (by rw[hI];exact Ld _)
 rw[hI] at h ⊢
 rw[gD] at h
 exact h
theorem M6 (w:World):Calls Tryz.prog 25 #[] w fun E w'=>E=.returned (rpV bX bY 1)∧Below w.heap.size w w':=by
 have HMIX:=Lh (show Tryz.prog.follows .mixedOrders=true by kernel_rfl)
 go_enter Tryz.func25,Tryz.ntmps25
 have hM0:=Mem.start w
 (go_step;go_step;refine wp_region_lit ?_)
 refine Au hM0 (ob:=.cells z12 55 (0,0)) (fun W=>Ab rfl (LU W)) rfl fun b1 W1 hM1=>?_
 simp only[nmA]
 refine wpList_nil ?_
 ((iterate 3 go_step);refine wp_region_lit ?_)
 refine Aj hM1 (args:=#[.int .u64 4]) (v:=Aa 4) (rcf (enters_of Tryz.func68 rfl rfl)) (E6 4 (by decide) W1) rfl fun W2 hM2=>?_
 simp only[nmA]
 refine Aj hM2 (args:=#[.int .u64 5]) (v:=Aa 5) (rcf (enters_of Tryz.func68 rfl rfl)) (E6 5 (by decide) W2) rfl fun W3 hM3=>?_
 simp only[nmA]
 obtain⟨v1,ev1⟩:=exza (IV 5)
 have pv1:v1<PN:=by rw[ev1];exact Ld _
 have Kv1:=fun W=>TG 5 W (by decide +kernel)
 simp only[← ev1] at Kv1
 refine Aj hM3 (args:=#[Aa 5]) (v:=Aa v1) (rcf (enters_of Tryz.func69 rfl rfl)) (Kv1 W3) rfl fun W4 hM4=>?_
 simp only[nmA]
 refine Aj hM4 (args:=#[Aa 4,Aa v1]) (v:=Aa bY) (rcf (enters_of Tryz.func67 rfl rfl)) (dQ v1 ev1 W4) rfl fun W5 hM5=>?_
 simp only[nmA]
 refine Au hM5 (ob:=.cells z4 23 (0,0)) (fun W=>Ab rfl (Dd W)) rfl fun b2 W6 hM6=>?_
 simp only[nmA]
 refine Ax hM6 0 (cs:=(elR bY)) rfl rfl rfl rfl AY rfl (AB bY) rfl rfl fun W7 hM7=>?_
 simp only[nm2,nm3] at hM7
 refine wpList_nil ?_
 ((iterate 3 go_step);refine wp_region_lit ?_)
 refine AG hM7 0 (v:=Aa bY) rfl rfl rfl rfl AY rfl ?_
 simp only[nmA]
 obtain⟨v2,ev2⟩:=exza (sqR bY)
 have pv2:v2<PN:=by rw[ev2];exact YC _
 have Kv2:=fun W=>Pj bY W Tg
 simp only[← ev2] at Kv2
 refine Aj hM7 (args:=#[Aa bY]) (v:=Aa v2) (rcf (enters_of Tryz.func71 rfl rfl)) (Kv2 W7) rfl fun W8 hM8=>?_
 simp only[nmA]
 obtain⟨v3,ev3⟩:=exza (By iV v2)
 have pv3:v3<PN:=by rw[ev3];exact Cz _
 have Kv3:=fun W=>fX v2 W pv2
 simp only[← ev3] at Kv3
 obtain⟨ok1,eok1⟩:=exza (okN iV v2)
 simp only[← eok1] at Kv3
 refine Aj hM8 (args:=#[Aa v2]) (v:=.tuple #[Aa v3,.bool ok1]) (rcf (enters_of Tryz.func70 rfl rfl)) (Kv3 W8) rfl fun W9 hM9=>?_
 simp only[nmA]
 refine Ad (.tuple #[Aa v3,.bool ok1]) ?_
 simp only[nmA]
 refine Ad (Aa v3) ?_
 simp only[nmA]
 refine Ad (.bool ok1) ?_
 simp only[nmA]
 refine Au hM9 (ob:=.cells z4 23 (0,0)) (fun W=>Ab rfl (Dd W)) rfl fun b3 W10 hM10=>?_
 simp only[nmA]
 refine Ax hM10 0 (cs:=(elR v3)) rfl rfl rfl rfl AY rfl (AB v3) rfl rfl fun W11 hM11=>?_
 simp only[nm2,nm3] at hM11
 refine Ad (.bool ok1) ?_
 simp only[nmA]
 refine wpList_nil ?_
 ((iterate 3 go_step);refine wp_region_lit ?_)
 refine AG hM11 0 (v:=Aa v3) rfl rfl rfl rfl AY rfl ?_
 simp only[nmA]
 refine AG hM11 1 (v:=Aa bY) rfl rfl rfl rfl AY rfl ?_
 simp only[nmA]
 refine Aj hM11 (args:=#[Aa v3,Aa bY]) (v:=rpV v3 bY 1) (rcf (enters_of Tryz.func72 rfl rfl)) (Vo v3 bY W11) rfl fun W12 hM12=>?_
 simp only[nmA]
 refine Ax hM12 2 (cs:=((rpL v3 bY 1).toArray)) rfl rfl rfl rfl DX rfl (Gz v3 bY 1) rfl rfl fun W13 hM13=>?_
 simp only[nm2,nm3] at hM13
 refine wpList_nil ?_
 ((iterate 3 go_step);refine bodyPost_ret (v:=rpV v3 bY 1) (Ao Tryz.results25 rfl (hM13.load 2 rfl DX)) rfl ⟨?_,hM13.below⟩)
 exact by rw[ev3,ev2,MO.1]
theorem ZM (Y:Nat) (hY:Y<PN) (h45:∀ w,Calls Tryz.prog 132 #[Aa 4,Aa 5] w fun e w'=>e=.returned (Aa Y)∧Below w.heap.size w w') (w:World):Calls Tryz.prog 96 #[] w fun E w'=>E=.returned (ptV (By iV (sqR Y)) Y 1 (By iV (sqR Y)*Y%PN))∧Below w.heap.size w w':=by
 have HMIX:=Lh (show Tryz.prog.follows .mixedOrders=true by kernel_rfl)
 go_enter Tryz.func96,Tryz.ntmps96
 have hM0:=Mem.start w
 (go_step;go_step;refine wp_region_lit ?_)
 refine Au hM0 (ob:=.cells z16 39 (0,0)) (fun W=>Ab rfl (En W)) rfl fun b1 W1 hM1=>?_
 simp only[nmA]
 refine wpList_nil ?_
 ((iterate 3 go_step);refine wp_region_lit ?_)
 refine Aj hM1 (args:=#[.int .u64 4]) (v:=Aa 4) (rcf (enters_of Tryz.func34 rfl rfl)) (Cm 4 (by decide) W1) rfl fun W2 hM2=>?_
 simp only[nmA]
 refine Aj hM2 (args:=#[.int .u64 5]) (v:=Aa 5) (rcf (enters_of Tryz.func34 rfl rfl)) (Cm 5 (by decide) W2) rfl fun W3 hM3=>?_
 simp only[nmA]
 refine Aj hM3 (args:=#[Aa 4,Aa 5]) (v:=Aa Y) (rcf (enters_of Tryz.func132 rfl rfl)) (h45 W3) rfl fun W4 hM4=>?_
 simp only[nmA]
 refine Au hM4 (ob:=.cells z4 36 (0,0)) (fun W=>Ab rfl (Bj W)) rfl fun b2 W5 hM5=>?_
 simp only[nmA]
 refine Ax hM5 0 (cs:=(elR Y)) rfl rfl rfl rfl Av rfl (AB Y) rfl rfl fun W6 hM6=>?_
 simp only[nm2,nm3] at hM6
 refine wpList_nil ?_
 ((iterate 3 go_step);refine wp_region_lit ?_)
 refine AG hM6 0 (v:=Aa Y) rfl rfl rfl rfl Av rfl ?_
 simp only[nmA]
 refine AG hM6 0 (v:=Aa Y) rfl rfl rfl rfl Av rfl ?_
 simp only[nmA]
 refine FT hM6 (f:=fun b=>.slice (some ⟨b,0,none⟩) 2 2) (ob:=.cells (elR Y++elR Y) 36 (0,0)) (fun W=>At rfl (by simp[Act.eval]) (bs2 Y Y W)) rfl fun b3 W7 hM7=>?_
 simp only[nmA]
 obtain⟨v1,ev1⟩:=exza (Y*Y%PN)
 have pv1:v1<PN:=by rw[ev1];exact Nat.mod_lt _ Aw
 have Kv1:=Cj Y Y hY hY
 rw[← ev1] at Kv1
 refine Aj hM7 (args:=#[.slice (some ⟨b3,0,none⟩) 2 2]) (v:=Aa v1) (rcf (enters_of Tryz.func76 rfl rfl)) (Kv1 b3 W7 (hM7.get 0 rfl)) rfl fun W8 hM8=>?_
 simp only[nmA]
 refine Au hM8 (ob:=.cells z4 36 (0,0)) (fun W=>Ab rfl (Bj W)) rfl fun b4 W9 hM9=>?_
 simp only[nmA]
 refine Ax hM9 0 (cs:=(elR v1)) rfl rfl rfl rfl Av rfl (AB v1) rfl rfl fun W10 hM10=>?_
 simp only[nm2,nm3] at hM10
 refine wpList_nil ?_
 ((iterate 3 go_step);refine wp_region_lit ?_)
 refine Aj hM10 (args:=#[.int .u64 1]) (v:=Aa 1) (rcf (enters_of Tryz.func34 rfl rfl)) (Cm 1 (by decide) W10) rfl fun W11 hM11=>?_
 simp only[nmA]
 refine Au hM11 (ob:=.cells z4 36 (0,0)) (fun W=>Ab rfl (Bj W)) rfl fun b5 W12 hM12=>?_
 simp only[nmA]
 refine Ax hM12 0 (cs:=(elR 1)) rfl rfl rfl rfl Av rfl (AB 1) rfl rfl fun W13 hM13=>?_
 simp only[nm2,nm3] at hM13
 refine wpList_nil ?_
 ((iterate 3 go_step);refine IA 16 14 rfl rfl (Hi rfl) (by kernel_rfl) (by decide) HMIX.out (by decide) (by kernel_rfl) (by kernel_rfl) ?_)
 refine Ar hM13 1 (v:=Aa v1) rfl rfl rfl rfl Av rfl rfl ?_;simp only[nmA]
 refine Ar hM13 0 (v:=Aa 1) rfl rfl rfl rfl Av rfl rfl ?_;simp only[nmA]
 obtain⟨v2,ev2⟩:=exza ((v1+PN-1)%PN)
 have pv2:v2<PN:=by rw[ev2];exact Nat.mod_lt _ Aw
 have Kv2:=fun W=>Et v1 1 W pv1 (by decide +kernel)
 simp only[← ev2] at Kv2
 refine Aq (args:=#[Aa v1,Aa 1]) (v:=Aa v2) (rcf (enters_of Tryz.func80 rfl rfl)) (fun W _=>Kv2 W) rfl rfl ?_;simp only[nmA]
 refine Aq (args:=#[]) (v:=Aa dN) (rcf (enters_of Tryz.func78 rfl rfl)) (fun W _=>LC W) rfl rfl ?_;simp only[nmA]
 refine Ar hM13 1 (v:=Aa v1) rfl rfl rfl rfl Av rfl rfl ?_;simp only[nmA]
 refine AR (n:=2) (L:=elR dN++elR v1) (T:=36) (fun W=>At rfl (by simp[Act.eval]) (bs2 dN v1 W)) rfl rfl ?_;simp only[List.nil_append,List.cons_append]
 obtain⟨v3,ev3⟩:=exza (dN*v1%PN)
 have pv3:v3<PN:=by rw[ev3];exact Nat.mod_lt _ Aw
 have Kv3:=Cj dN v1 UZ.2 pv1
 rw[← ev3] at Kv3
 refine A7 5 20 (v:=Aa v3) rfl rfl (fun _=>rfl) (fun b W=>AK W (enters_of Tryz.func76 rfl rfl) rfl (by simp[Act.eval,Act.put])) (fun b W h=>Kv3 b W h) ?_;simp only[nmA]
 refine Ar hM13 0 (v:=Aa 1) rfl rfl rfl rfl Av rfl rfl ?_;simp only[nmA]
 refine AR (n:=2) (L:=elR v3++elR 1) (T:=36) (fun W=>At rfl (by simp[Act.eval]) (bs2 v3 1 W)) rfl rfl ?_;simp only[List.nil_append,List.cons_append]
 obtain⟨v4,ev4⟩:=exza ((v3+1)%PN)
 have pv4:v4<PN:=by rw[ev4];exact Nat.mod_lt _ Aw
 have Kv4:=Ef v3 1 pv3 (by decide +kernel)
 rw[← ev4] at Kv4
 refine A7 8 23 (v:=Aa v4) rfl rfl (fun _=>rfl) (fun b W=>AK W (enters_of Tryz.func77 rfl rfl) rfl (by simp[Act.eval,Act.put])) (fun b W h=>Kv4 b W h) ?_;simp only[nmA]
 obtain⟨v5,ev5⟩:=exza (v2*IV v4%PN)
 have pv5:v5<PN:=by rw[ev5];exact Nat.mod_lt _ Aw
 have Kv5:=fun W=>Pb v2 v4 W pv2 pv4
 simp only[← ev5] at Kv5
 refine Aq (args:=#[Aa v2,Aa v4]) (v:=Aa v5) (rcf (enters_of Tryz.func132 rfl rfl)) (fun W _=>Kv5 W) rfl rfl ?_;simp only[nmA]
 obtain⟨v6,ev6⟩:=exza (By iV v5)
 have pv6:v6<PN:=by rw[ev6];exact Cz _
 have Kv6:=fun W=>Ye v5 W pv5
 simp only[← ev6] at Kv6
 obtain⟨ok1,eok1⟩:=exza (okN iV v5)
 simp only[← eok1] at Kv6
 refine Aq (args:=#[Aa v5]) (v:=.tuple #[Aa v6,.bool ok1]) (rcf (enters_of Tryz.func79 rfl rfl)) (fun W _=>Kv6 W) rfl rfl ?_;simp only[nmA]
 refine Az (.tuple #[Aa v6,.bool ok1]) ?_;simp only[nmA]
 refine Az (Aa v6) ?_;simp only[nmA]
 refine Az (.bool ok1) ?_;simp only[nmA]
 refine Cc (.cells z4 36 (0,0)) rfl rfl (fun A W=>Ab rfl (Bj W)) ?_;simp only[List.nil_append,List.cons_append]
 refine AX fun d os=>?_
 refine A6 (t:=20) rfl fun s5=>?_
 refine A6 (t:=23) rfl fun s8=>?_
 refine Bk (t:=4) rfl fun b6 lb6 gb6=>?_
 refine AF fun hap=>?_
 simp only[nmA] at hap ⊢
 have hM14:=hM13.news1 (below_regrown W13 d os) lb6 gb6 
 clear hap lb6 gb6
 generalize grow (redrawn W13 d) os=W14 at hM14 ⊢
 change wpAny _ _ _ _ 2 _ _ _
 refine A8 (n:=16) (by kernel_rfl) rfl hM14 0 (cs:=(elR v6)) rfl rfl rfl rfl Av rfl (AB v6) rfl rfl fun W15 hM15=>?_
 simp only[nm2,nm3] at hM15
 refine Qz (n:=17) (v:=.bool ok1) (by kernel_rfl) rfl (fun _=>rfl) rfl rfl ?_
 simp only[nmA]
 refine wpAny_done (by kernel_rfl) ?_ _
 refine NoPanic.normal ?_
 ((iterate 3 go_step);refine wp_region_lit ?_)
 refine AG hM15 0 (v:=Aa v6) rfl rfl rfl rfl Av rfl ?_
 simp only[nmA]
 refine AG hM15 4 (v:=Aa Y) rfl rfl rfl rfl Av rfl ?_
 simp only[nmA]
 obtain⟨v7,ev7⟩:=exza (v6*Y%PN)
 have pv7:v7<PN:=by rw[ev7];exact Nat.mod_lt _ Aw
 have KA:=fun W=>Sm v6 Y W pv6 hY
 simp only[← ev7] at KA
 refine Aj hM15 (args:=#[Aa v6,Aa Y]) (v:=ptV v6 Y 1 v7) (rcf (enters_of Tryz.func73 rfl rfl)) (KA W15) rfl fun W16 hM16=>?_
 simp only[nmA]
 refine Ax hM16 5 (cs:=((ptL v6 Y 1 v7).toArray)) rfl rfl rfl rfl AS rfl (GA v6 Y 1 v7) rfl rfl fun W17 hM17=>?_
 simp only[nm2,nm3] at hM17
 refine wpList_nil ?_
 ((iterate 3 go_step);refine bodyPost_ret (v:=ptV v6 Y 1 v7) (Ao Tryz.results96 rfl (hM17.load 5 rfl AS)) rfl ⟨?_,hM17.below⟩)
 exact by
  unfold sqR
  rw[ev7,ev6,ev5,ev4,ev3,ev2,ev1]
theorem Xp (w:World):Calls Tryz.prog 96 #[] w fun E w'=>E=.returned (ptV bX bY 1 (bX*bY%PN))∧Below w.heap.size w w':=by
 have h:=ZM bY Tg gX w
 rw[MO.1] at h
 exact h
theorem Uf:z16.all (·.oneCell')=true:=by simp[z16,Value.oneCell']
abbrev N3:=Nat × Nat × Nat
def Mx (a b:N3):N3:=(P8 a.1 a.2.1 a.2.2 b.1 b.2.1 b.2.2,O8 a.1 a.2.1 a.2.2 b.1 b.2.1 b.2.2,QB a.1 a.2.1 a.2.2 b.1 b.2.1 b.2.2)
def In3 (a:N3):Prop:=a.1<PN∧a.2.1<PN∧a.2.2<PN
theorem I0 (a b:N3):In3 (Mx a b):=⟨Nat.mod_lt _ Aw,Nat.mod_lt _ Aw,Nat.mod_lt _ Aw⟩
def tms (k:Nat) (q:N3):Nat→N3
 | 0=>(0,1,1)
 | m+1=>if k/2^(255-m)%2=1 then Mx (Mx (tms k q m) (tms k q m)) q else Mx (tms k q m) (tms k q m)
theorem aU (k:Nat) (q:N3):∀ m,In3 (tms k q m)
 | 0=>by
   show In3 (0,1,1)
   exact⟨by decide +kernel,by decide +kernel,by decide +kernel⟩
 | m+1=>by
   unfold tms
   split
   ·exact I0 _ _
   ·exact I0 _ _
theorem rof' (k:Nat) (hk:k<B64^4) (w:World):Calls Tryz.prog 108 #[Aa k] w fun e w'=>∃ g,e=.returned (.slice (some ⟨g,0,none⟩) 16 16)∧w'.heap[g]?=some (.cells (Bu (dg k) 16).toArray 22 (0,0))∧w.heap.size≤g∧Below w.heap.size w w' :=
 (Ds k w hk).mono fun e w' ⟨g,h1,h2,h3,h4⟩=>⟨g,h1,h2.1,h3,h4⟩
theorem gZ (k i:Nat) (n:Int) (bt:Nat) (hn:n=(i:Int)) (hb:k/2^i%2=bt) (hi:i≤100000) (hk:k<B64^4) (g:Nat) (W:World) (h:W.heap[g]?=some (.cells (Bu (dg k) 16).toArray 22 (0,0))) :
    Calls Tryz.prog 124 #[.slice (some ⟨g,0,none⟩) 16 16,.int .i64 n] W fun e w'=>e=.returned (.int .u64 (bt:Int))∧Below W.heap.size W w':=by
 have ho:BA W g 16 k:=⟨h,by have:B64^4=65536^16:=by decide +kernel
                            omega,by decide⟩
 have hc:=Ls (some ⟨g,0,none⟩) 16 16 k i W (ho.is 16 (Nat.le_refl _)) hi
 rw[hn,← hb]
 exact hc.mono fun e w' ⟨h1,h2⟩=>by
  subst h2
  exact⟨h1,Below.refl _ _⟩
theorem Wa (n:Int) (x y:Operand) (W:World):(do eqGuard .geq 3 x y (.int .i64 n) (.int .i64 0);binOp .geq 3 (.int .i64 n) (.int .i64 0):Sem Value).run Tryz.prog W=.ok (.bool (decide (0≤n))) W:=by
 go_simp
theorem Np (n:Int) (x y:Operand) (W:World) (h0:0≤n) (h1:n≤1000000):(do eqGuard .sub 3 x y (.int .i64 n) (.int .i64 1);binOp .sub 3 (.int .i64 n) (.int .i64 1):Sem Value).run Tryz.prog W=.ok (.int .i64 (n-1)) W:=by
 have e:IntKind.i64.wrap (n-1)=n-1:=IntWalk.i64_in _ (by omega)
 go_simp
theorem Vv (n:Nat) (x y:Operand) (W:World):(do eqGuard .eql 22 x y (.int .u64 (n:Int)) (.int .u64 1);binOp .eql 22 (.int .u64 (n:Int)) (.int .u64 1):Sem Value).run Tryz.prog W=.ok (.bool (decide (n=1))) W:=by
 have e:((n:Int) == 1)=decide (n=1):=by
  by_cases h:n=1
  ·subst h;rfl
  ·rw[decide_eq_false h]
   exact beq_eq_false_iff_ne.2 (by omega)
 go_simp
theorem QX (a b:N3) (w:World) (ha:In3 a) (hb:In3 b):Calls Tryz.prog 116 #[rpV a.1 a.2.1 a.2.2,rpV b.1 b.2.1 b.2.2,Aa dN] w fun E w'=>E=.returned (rpV (Mx a b).1 (Mx a b).2.1 (Mx a b).2.2)∧Below w.heap.size w w' :=
 So _ _ _ _ _ _ ha.1 ha.2.1 ha.2.2 hb.1 hb.2.1 hb.2.2 w
theorem V7 (k:Nat) (q:N3) (w:World) (hk:k<B64^4) (iq:In3 q):Calls Tryz.prog 65 #[Aa k,rpV q.1 q.2.1 q.2.2,Aa dN] w fun E w'=>E=.returned (rpV (tms k q 256).1 (tms k q 256).2.1 (tms k q 256).2.2)∧Below w.heap.size w w':=by
 have HMIX:=Lh (show Tryz.prog.follows .mixedOrders=true by kernel_rfl)
 go_enter Tryz.func65,Tryz.ntmps65
 have hM0:=Mem.start w
 (go_step;go_step;refine wp_region_lit ?_)
 refine Au hM0 (ob:=.cells (elR k) 23 (0,0)) (fun W=>AP rfl rfl (LH k W)) rfl fun b1 W1 hM1=>?_
 simp only[nmA]
 refine Au hM1 (ob:=.cells ((rpL q.1 q.2.1 q.2.2).toArray) 55 (0,0)) (fun W=>AP rfl rfl (MQ _ _ _ W)) rfl fun b2 W2 hM2=>?_
 simp only[nmA]
 refine Au hM2 (ob:=.cells (elR dN) 23 (0,0)) (fun W=>AP rfl rfl (LH dN W)) rfl fun b3 W3 hM3=>?_
 simp only[nmA]
 refine Au hM3 (ob:=.cells z12 55 (0,0)) (fun W=>Ab rfl (LU W)) rfl fun b4 W4 hM4=>?_
 simp only[nmA]
 refine wpList_nil ?_
 ((iterate 3 go_step);refine wp_region_lit ?_)
 refine AG hM4 3 (v:=Aa k) rfl rfl rfl rfl AY rfl ?_
 simp only[nmA]
 refine YH hM4 (args:=#[Aa k]) (v:=fun b=>.slice (some ⟨b,0,none⟩) 16 16) (ob:=.cells ((Bu (dg k) 16).toArray) 22 (0,0)) (rcf (enters_of Tryz.func108 rfl rfl)) (rof' k hk W4) rfl fun b5 W5 hM5=>?_
 simp only[nmA]
 refine Ad (.slice (some ⟨b5,0,none⟩) 16 16) ?_
 simp only[nmA]
 refine wpList_nil ?_
 ((iterate 3 go_step);refine wp_region_lit ?_)
 refine Aj hM5 (args:=#[]) (v:=rpV 0 1 1) (rcf (enters_of Tryz.func112 rfl rfl)) (WC W5) rfl fun W6 hM6=>?_
 simp only[nmA]
 refine Au hM6 (ob:=.cells z12 55 (0,0)) (fun W=>Ab rfl (LU W)) rfl fun b6 W7 hM7=>?_
 simp only[nmA]
 refine Ax hM7 0 (cs:=((rpL 0 1 1).toArray)) rfl rfl rfl rfl DX rfl (Gz _ _ _) rfl rfl fun W8 hM8=>?_
 simp only[nm2,nm3] at hM8
 refine wpList_nil ?_
 ((iterate 4 go_step);refine wp_region_lit ?_)
 refine Ad (.int .i64 255) ?_
 simp only[nmA]
 refine wpList_nil ?_
 ((iterate 3 go_step);go_loopw [9] (fun i wr=>∃ m:Nat,m≤256∧i=.int .i64 (255-(m:Int))∧Mem w [(b6,.cells ((rpL (tms k q m).1 (tms k q m).2.1 (tms k q m).2.2).toArray) 55 (0,0)),(b5,.cells ((Bu (dg k) 16).toArray) 22 (0,0)),(b4,.cells z12 55 (0,0)),(b3,.cells (elR dN) 23 (0,0)),(b2,.cells ((rpL q.1 q.2.1 q.2.2).toArray) 55 (0,0)),(b1,.cells (elR k) 23 (0,0))] wr) (fun i _=>(Go.RowKit.intOf i+1).toNat))
 case atStart=>exact⟨0,by omega,rfl,hM8⟩
 case round =>
  obtain⟨m,hm,rfl,hR⟩:=hrel
  clear hM1 hM2 hM3 hM4 hM5 hM6 hM7 hM8
  obtain⟨n,hn⟩:∃ n:Int,n=255-(m:Int):=⟨_,rfl⟩
  rw[← hn]
  obtain⟨a0,ea0⟩:=exza (tms k q m)
  have ia0:In3 a0:=by rw[ea0];exact aU k q m
  rw[← ea0] at hR
  ((iterate 3 go_step);refine wp_region_lit ?_)
  refine Ad (.int .i64 n) ?_
  simp only[nmA]
  obtain⟨c1,hc1⟩:=exza (decide (0≤n))
  refine Ac (v:=.bool c1) (fun W=>Ai rfl rfl rfl (by rw[hc1];exact Wa n _ _ W)) rfl ?_
  simp only[nmA]
  refine wpList_nil ?_
  cases c1
  ·skip
   have hm6:m=256:=by
    have h9:=of_decide_eq_false hc1.symm
    omega
   subst hm6
   ((iterate 9 go_step);refine wp_region_lit ?_)
   refine AG hR 0 (v:=rpV a0.1 a0.2.1 a0.2.2) rfl rfl rfl rfl DX rfl ?_
   simp only[nmA]
   refine Ax hR 2 (cs:=((rpL a0.1 a0.2.1 a0.2.2).toArray)) rfl rfl rfl rfl DX rfl (Gz _ _ _) rfl rfl fun W10 hM10=>?_
   simp only[nm2,nm3] at hM10
   refine wpList_nil ?_
   ((iterate 3 go_step);refine bodyPost_ret (v:=rpV a0.1 a0.2.1 a0.2.2) (Ao Tryz.results65 rfl (hM10.load 2 rfl DX)) rfl ⟨?_,hM10.below⟩)
   exact by rw[ea0]
  ·skip
   have hn0:0≤n:=of_decide_eq_true hc1.symm
   have hn1:n≤1000000:=by omega
   have hml:m<256:=by omega
   have hni:n=((255-m:Nat):Int):=by omega
   obtain⟨bt,hbt⟩:=exzb (k/2^(255-m)%2)
   ((iterate 9 go_step);refine wp_region_lit ?_)
   refine AG hR 0 (v:=rpV a0.1 a0.2.1 a0.2.2) rfl rfl rfl rfl DX rfl ?_
   simp only[nmA]
   refine AG hR 0 (v:=rpV a0.1 a0.2.1 a0.2.2) rfl rfl rfl rfl DX rfl ?_
   simp only[nmA]
   refine AG hR 3 (v:=Aa dN) rfl rfl rfl rfl AY rfl ?_
   simp only[nmA]
   obtain⟨a1,ea1⟩:=exza (Mx a0 a0)
   have ia1:In3 a1:=by rw[ea1];exact I0 _ _
   have Ka1:=fun W=>QX a0 a0 W ia0 ia0
   simp only[← ea1] at Ka1
   refine Aj hR (args:=#[rpV a0.1 a0.2.1 a0.2.2,rpV a0.1 a0.2.1 a0.2.2,Aa dN]) (v:=rpV a1.1 a1.2.1 a1.2.2) (rcf (enters_of Tryz.func116 rfl rfl)) (Ka1 wr) rfl fun W10 hM10=>?_
   simp only[nmA]
   refine Ax hM10 0 (cs:=((rpL a1.1 a1.2.1 a1.2.2).toArray)) rfl rfl rfl rfl DX rfl (Gz _ _ _) rfl rfl fun W11 hM11=>?_
   simp only[nm2,nm3] at hM11
   refine wpList_nil ?_
   ((iterate 3 go_step);refine wp_region_lit ?_)
   refine Ad (.slice (some ⟨b5,0,none⟩) 16 16) ?_
   simp only[nmA]
   refine Ad (.int .i64 n) ?_
   simp only[nmA]
   refine Aj hM11 (args:=#[.slice (some ⟨b5,0,none⟩) 16 16,.int .i64 n]) (v:=.int .u64 (bt:Int)) (rcf (enters_of Tryz.func124 rfl rfl)) (gZ k (255-m) n bt hni hbt (by omega) hk b5 W11 (hM11.get 1 rfl)) rfl fun W12 hM12=>?_
   simp only[nmA]
   obtain⟨c2,hc2⟩:=exza (decide (bt=1))
   refine Ac (v:=.bool c2) (fun W=>Ai rfl rfl rfl (by rw[hc2];exact Vv bt _ _ W)) rfl ?_
   simp only[nmA]
   refine wpList_nil ?_
   cases c2
   ·skip
    have hb1:¬ bt=1:=of_decide_eq_false hc2.symm
    ((iterate 6 go_step);refine wp_region_lit ?_)
    refine Ad (.int .i64 n) ?_
    simp only[nmA]
    refine Ac (v:=.int .i64 (n-1)) (fun W=>Ai rfl rfl rfl (Np n _ _ W hn0 hn1)) rfl ?_
    simp only[nmA]
    refine Ad (.int .i64 (n-1)) ?_
    simp only[nmA]
    refine wpList_nil ?_
    go_roundw
    case rel =>
     have hn2:n-1=255-((m+1:Nat):Int):=by omega
     refine⟨_,_,_,_,_,_,_,_,_,_,_,_,_,_,_,_,_,?_,rfl⟩
     refine⟨m+1,by omega,congrArg (Value.int .i64) hn2,?_⟩
     have ht:tms k q (m+1)=a1:=by
      unfold tms
      rw[hbt,if_neg hb1,← ea0,← ea1]
     rw[ht]
     exact hM12
    case measure=>simp[Go.RowKit.intOf];omega
   ·skip
    have hb1:bt=1:=of_decide_eq_true hc2.symm
    ((iterate 3 go_step);refine wp_region_lit ?_)
    refine AG hM12 0 (v:=rpV a1.1 a1.2.1 a1.2.2) rfl rfl rfl rfl DX rfl ?_
    simp only[nmA]
    refine AG hM12 4 (v:=rpV q.1 q.2.1 q.2.2) rfl rfl rfl rfl DX rfl ?_
    simp only[nmA]
    refine AG hM12 3 (v:=Aa dN) rfl rfl rfl rfl AY rfl ?_
    simp only[nmA]
    obtain⟨a2,ea2⟩:=exza (Mx a1 q)
    have ia2:In3 a2:=by rw[ea2];exact I0 _ _
    have Ka2:=fun W=>QX a1 q W ia1 iq
    simp only[← ea2] at Ka2
    refine Aj hM12 (args:=#[rpV a1.1 a1.2.1 a1.2.2,rpV q.1 q.2.1 q.2.2,Aa dN]) (v:=rpV a2.1 a2.2.1 a2.2.2) (rcf (enters_of Tryz.func116 rfl rfl)) (Ka2 W12) rfl fun W13 hM13=>?_
    simp only[nmA]
    refine Ax hM13 0 (cs:=((rpL a2.1 a2.2.1 a2.2.2).toArray)) rfl rfl rfl rfl DX rfl (Gz _ _ _) rfl rfl fun W14 hM14=>?_
    simp only[nm2,nm3] at hM14
    refine wpList_nil ?_
    (go_step;go_step;refine wp_region_lit ?_)
    refine Ad (.int .i64 n) ?_
    simp only[nmA]
    refine Ac (v:=.int .i64 (n-1)) (fun W=>Ai rfl rfl rfl (Np n _ _ W hn0 hn1)) rfl ?_
    simp only[nmA]
    refine Ad (.int .i64 (n-1)) ?_
    simp only[nmA]
    refine wpList_nil ?_
    go_roundw
    case rel =>
     have hn2:n-1=255-((m+1:Nat):Int):=by omega
     refine⟨_,_,_,_,_,_,_,_,_,_,_,_,_,_,_,_,_,?_,rfl⟩
     refine⟨m+1,by omega,congrArg (Value.int .i64) hn2,?_⟩
     have ht:tms k q (m+1)=a2:=by
      unfold tms
      rw[hbt,if_pos hb1,← ea0,← ea1,← ea2]
     rw[ht]
     exact hM14
    case measure=>simp[Go.RowKit.intOf];omega
def Ext (X Y Z T:Fp) (p:Fp × Fp):Prop:=Z≠0∧p.1*Z=X∧p.2*Z=Y∧p.1*p.2*Z=T
theorem Ext.rep {X Y Z T:Fp} {p:Fp × Fp} (h:Ext X Y Z T p):Rep X Y Z p:=⟨h.1,h.2.1,h.2.2.1⟩
section
variable {α:Type} [Lean.Grind.CommRing α]
theorem Vu (x1 y1 z1 x2 y2 z2 d u v:α) (hu:(1+d*x1*x2*y1*y2)*u=1) (hv:(1-d*x1*x2*y1*y2)*v=1) :
    let e:=(x1*z1+y1*z1)*(x2*z2+y2*z2)-(x1*z1*(x2*z2)+y1*z1*(y2*z2));let dts:=d*(x1*y1*z1)*(x2*y2*z2);let f:=z1*z2-dts;let g:=z1*z2+dts;let h:=y1*z1*(y2*z2)+x1*z1*(x2*z2)
    f=z1*z2*(1-d*x1*x2*y1*y2)∧g=z1*z2*(1+d*x1*x2*y1*y2)∧(x1*y2+y1*x2)*u*(f*g)=e*f∧(y1*y2+x1*x2)*v*(f*g)=g*h∧(x1*y2+y1*x2)*u*((y1*y2+x1*x2)*v)*(f*g)=e*h:=by
 intro e dts f g h
 have e1:f=z1*z2*(1-d*x1*x2*y1*y2):=by clear hu hv;grind
 have e2:g=z1*z2*(1+d*x1*x2*y1*y2):=by clear hu hv;grind
 have e3:e=z1*z2*(x1*y2+y1*x2):=by clear hu hv e1 e2;grind
 have e4:h=z1*z2*(y1*y2+x1*x2):=by clear hu hv e1 e2 e3;grind
 refine⟨e1,e2,?_,?_,?_⟩
 all_goals
  rw[e1,e2]
  first | rw[e3] | skip
  first | rw[e4] | skip
  clear e1 e2 e3 e4
  generalize d*x1*x2*y1*y2=k at *
  generalize x1*y2+y1*x2=A at *
  generalize y1*y2+x1*x2=B at *
  generalize z1*z2=c at *
  grind
theorem PL (x y z d u v:α) (hp:y*y-x*x=1+d*(x*x)*(y*y)) (hu:(1+d*x*x*y*y)*u=1) (hv:(1-d*x*x*y*y)*v=1) :
    let g:=y*z*(y*z)-x*z*(x*z);let f:=(z*z+z*z)-g;let e:=x*z*(y*z)+x*z*(y*z);let h:=y*z*(y*z)+x*z*(x*z)
    f=z*z*(1-d*x*x*y*y)∧g=z*z*(1+d*x*x*y*y)∧(x*y+y*x)*u*(f*g)=e*f∧(y*y+x*x)*v*(f*g)=g*h∧(x*y+y*x)*u*((y*y+x*x)*v)*(f*g)=e*h:=by
 intro g f e h
 have e1:f=z*z*(1-d*x*x*y*y):=by clear hu hv;grind
 have e2:g=z*z*(1+d*x*x*y*y):=by clear hu hv e1;grind
 have e3:e=z*z*(x*y+y*x):=by clear hu hv e1 e2 hp;grind
 have e4:h=z*z*(y*y+x*x):=by clear hu hv e1 e2 e3 hp;grind
 refine⟨e1,e2,?_,?_,?_⟩
 all_goals
  rw[e1,e2]
  first | rw[e3] | skip
  first | rw[e4] | skip
  clear e1 e2 e3 e4 hp
  generalize d*x*x*y*y=k at *
  generalize x*y+y*x=A at *
  generalize y*y+x*x=B at *
  generalize z*z=c at *
  grind
end
theorem bz (X Y Z T U V W S:Fp) (p q:Fp × Fp) (hp:On p) (hq:On q) (h1:Ext X Y Z T p) (h2:Ext U V W S q) :
    let e:=(X+Y)*(U+V)-(X*U+Y*V);let f:=Z*W-dF*T*S;let g:=Z*W+dF*T*S;let h:=Y*V+X*U;Ext (e*f) (g*h) (f*g) (e*h) (Bi p q):=by
 intro e f g h
 obtain⟨u,v,hu,hv,ep⟩:=Dp p q hp hq
 obtain⟨n1,rfl,rfl,rfl⟩:=h1
 obtain⟨n2,rfl,rfl,rfl⟩:=h2
 obtain⟨w1,w2⟩:=whole p q hp hq
 obtain⟨r1,r2,r3,r4,r5⟩:=Vu p.1 p.2 Z q.1 q.2 W dF u v hu hv
 rw[ep]
 refine⟨?_,r3,r4,r5⟩
 have m1:f≠0:=by
  show Z*W-dF*(p.1*p.2*Z)*(q.1*q.2*W)≠0
  rw[r1]
  exact Ck (Ck n1 n2) w2
 have m2:g≠0:=by
  show Z*W+dF*(p.1*p.2*Z)*(q.1*q.2*W)≠0
  rw[r2]
  exact Ck (Ck n1 n2) w1
 exact Ck m1 m2
theorem UG (X Y Z T:Fp) (p:Fp × Fp) (hp:On p) (h1:Ext X Y Z T p) :
    let g:=Y*Y-X*X;let f:=(Z*Z+Z*Z)-g;let e:=X*Y+X*Y;let h:=Y*Y+X*X;Ext (e*f) (g*h) (f*g) (e*h) (Bi p p):=by
 intro g f e h
 obtain⟨u,v,hu,hv,ep⟩:=Dp p p hp hp
 obtain⟨n1,rfl,rfl,rfl⟩:=h1
 obtain⟨w1,w2⟩:=whole p p hp hp
 obtain⟨r1,r2,r3,r4,r5⟩:=PL p.1 p.2 Z dF u v hp hu hv
 rw[ep]
 refine⟨?_,r3,r4,r5⟩
 have m2:g≠0:=by
  show p.2*Z*(p.2*Z)-p.1*Z*(p.1*Z)≠0
  rw[r2]
  exact Ck (Ck n1 n1) w1
 have m1:f≠0:=by
  show (Z*Z+Z*Z)-(p.2*Z*(p.2*Z)-p.1*Z*(p.1*Z))≠0
  rw[r1]
  exact Ck (Ck n1 n1) w2
 exact Ck m1 m2
theorem c9 (X Y Z T:Fp) (p:Fp × Fp) (h:Ext X Y Z T p):Ext (-X) Y Z (-T) (OD p):=by
 obtain⟨n,rfl,rfl,rfl⟩:=h
 refine⟨n,?_,rfl,?_⟩
 ·exact Lean.Grind.Ring.neg_mul _ _
 ·show -p.1*p.2*Z = -(p.1*p.2*Z)
  rw[Lean.Grind.Ring.neg_mul,Lean.Grind.Ring.neg_mul]
theorem eQ (X Y Z:Fp) (p:Fp × Fp) (h:Rep X Y Z p):X*inv Z=p.1∧Y*inv Z=p.2:=by
 obtain⟨n,rfl,rfl⟩:=h
 have i:=OB Z n
 constructor
 ·rw[Lean.Grind.Semiring.mul_assoc,i,Lean.Grind.Semiring.mul_one]
 ·rw[Lean.Grind.Semiring.mul_assoc,i,Lean.Grind.Semiring.mul_one]
abbrev N4:=Nat × Nat × Nat × Nat
abbrev Pt:=Fp × Fp
def pl4 (a:N4):List Value:=ptL a.1 a.2.1 a.2.2.1 a.2.2.2
def pc4 (a:N4):Array Value:=(pl4 a).toArray
def pv4 (a:N4):Value:=.agg (pc4 a)
def pv3 (a:N3):Value:=rpV a.1 a.2.1 a.2.2
structure Ok4 (a:N4) (p:Pt):Prop where
 x:a.1<PN
 y:a.2.1<PN
 z:a.2.2.1<PN
 t:a.2.2.2<PN
 on:On p
 ext:Ext (fz a.1) (fz a.2.1) (fz a.2.2.1) (fz a.2.2.2) p
structure Ok3 (a:N3) (p:Pt):Prop where
 is:In3 a
 on:On p
 rep:Rep (fz a.1) (fz a.2.1) (fz a.2.2) p
theorem fC {z:Nat} (h:fz z≠0):0<z:=Nat.pos_of_ne_zero fun e=>h (by rw[e];rfl)
theorem Ok4.pos {a:N4} {p:Pt} (h:Ok4 a p):0<a.2.2.1:=fC h.ext.1
theorem O1 (a b:Nat) (hb:b<PN):fz ((a+PN-b)%PN)=fz a-fz b:=by rw[Ce,L0 a b (Nat.le_of_lt hb)]
theorem Hy (b:Nat) (hb:b<PN):fz ((0+PN-b)%PN) = -fz b:=by
 rw[O1 0 b hb,cV]
 show (0:Fp)-fz b = -fz b
 grind
theorem md (a:Nat):a%PN<PN:=Nat.mod_lt _ Aw
def Lc (a b:N4):N4:=(cJ dN a.1 a.2.1 a.2.2.1 a.2.2.2 b.1 b.2.1 b.2.2.1 b.2.2.2,cr dN a.1 a.2.1 a.2.2.1 a.2.2.2 b.1 b.2.1 b.2.2.1 b.2.2.2,cc dN a.2.2.1 a.2.2.2 b.2.2.1 b.2.2.2,bs a.1 a.2.1 b.1 b.2.1)
def IG (a:N4):N4:=(dd a.1 a.2.1 a.2.2.1,bE a.1 a.2.1,aj a.1 a.2.1 a.2.2.1,bF a.1 a.2.1)
def GG (a:N4):N4:=((0+PN-a.1)%PN,a.2.1,a.2.2.1,(0+PN-a.2.2.2)%PN)
def Cp:N4:=(0,1,1,0)
def Hw:N4:=(bX,bY,1,bX*bY%PN)
theorem Nu:1<PN:=by decide +kernel
theorem JM (x y:Nat) (p:Pt) (hx:x<PN) (hy:y<PN) (hp:On p) (h1:p.1=fz x) (h2:p.2=fz y):Ok4 (x,y,1,x*y%PN) p:=by
 refine⟨hx,hy,Nu,md _,hp,G6.1,?_,?_,?_⟩
 ·show p.1*fz 1=fz x
  rw[IQ,Lean.Grind.Semiring.mul_one,h1]
 ·show p.2*fz 1=fz y
  rw[IQ,Lean.Grind.Semiring.mul_one,h2]
 ·show p.1*p.2*fz 1=fz (x*y%PN)
  rw[Ce,Cy,IQ,Lean.Grind.Semiring.mul_one,h1,h2]
theorem Fh:Ok4 Cp Cf:=JM 0 1 Cf (by decide +kernel) (by decide +kernel) Fs rfl rfl
theorem Ll:Ok4 Hw BK:=JM bX bY BK dA Tg Di rfl rfl
theorem E7 {a b:N4} {p q:Pt} (ha:Ok4 a p) (hb:Ok4 b q):Ok4 (Lc a b) (Bi p q):=by
 refine⟨md _,md _,md _,md _,Fl p q ha.on hb.on,?_⟩
 have h:=bz _ _ _ _ _ _ _ _ p q ha.on hb.on ha.ext hb.ext
 simp only[Lc,cJ,cr,cc,bs,Ce,Cy,Hf,O1 _ _ (md _)]
 exact h
theorem Ej {a:N4} {p:Pt} (ha:Ok4 a p):Ok4 (IG a) (Bi p p):=by
 refine⟨md _,md _,md _,md _,Fl p p ha.on ha.on,?_⟩
 have h:=UG _ _ _ _ p ha.on ha.ext
 simp only[IG,dd,bE,aj,bF,Ce,Cy,Hf,O1 _ _ (md _)]
 exact h
theorem Td {a:N4} {p:Pt} (ha:Ok4 a p):Ok4 (GG a) (OD p):=by
 refine⟨md _,ha.y,ha.z,md _,OG p ha.on,?_⟩
 have h:=c9 _ _ _ _ p ha.ext
 show Ext (fz ((0+PN-a.1)%PN)) (fz a.2.1) (fz a.2.2.1) (fz ((0+PN-a.2.2.2)%PN)) (OD p)
 rw[Hy _ ha.x,Hy _ ha.t]
 exact h
theorem Uq {a b:N3} {p q:Pt} (ha:Ok3 a p) (hb:Ok3 b q):Ok3 (Mx a b) (Bi p q) :=
 ⟨I0 a b,Fl p q ha.on hb.on,LO _ _ _ _ _ _ p q ha.on hb.on ha.rep hb.rep⟩
theorem ZA:Ok3 (0,1,1) Cf:=⟨⟨by decide +kernel,by decide +kernel,by decide +kernel⟩,Fs,Ml⟩
theorem Qo:Ok3 (bX,bY,1) BK:=⟨⟨dA,Tg,by decide +kernel⟩,Di,G6⟩
theorem TY {q:N3} {p:Pt} (hq:Ok3 q p) (k:Nat) (hk:k<B64^4):∀ m,m≤256→Ok3 (tms k q m) (AC (k/2^(256-m)) p)
 | 0,_=>by
   have e:k/2^(256-0)=0:=by
    rw[Nat.div_eq_zero_iff]
    right
    have:B64^4=2^(256-0):=by decide +kernel
    omega
   rw[e]
   exact ZA
 | m+1,hm=>by
   have ih:=TY hq k hk m (by omega)
   have e1:k/2^(256-(m+1))=2*(k/2^(256-m))+k/2^(255-m)%2:=by
    rw[show 256-(m+1)=255-m by omega,show 256-m=(255-m)+1 by omega,Nat.pow_succ,← Nat.div_div_eq_div_mul]
    omega
   have hd:=Uq ih ih
   have e2:AC (2*(k/2^(256-m))) p=Bi (AC (k/2^(256-m)) p) (AC (k/2^(256-m)) p):=by
    rw[Nat.two_mul,DP p hq.on]
   unfold tms
   split
   ·rename_i hb
    rw[e1,hb]
    show Ok3 _ (Bi (AC (2*(k/2^(256-m))) p) p)
    rw[e2]
    exact Uq hd hq
   ·rename_i hb
    have hb0:k/2^(255-m)%2=0:=by omega
    rw[e1,hb0,Nat.add_zero,e2]
    exact hd
theorem Nr {q:N3} {p:Pt} (hq:Ok3 q p) (k:Nat) (hk:k<B64^4):Ok3 (tms k q 256) (AC k p):=by
 have h:=TY hq k hk 256 (Nat.le_refl _)
 rw[Nat.sub_self,Nat.pow_zero,Nat.div_one] at h
 exact h
theorem Xq (z:Nat) (hz:z<PN):fz (IV z)=inv (fz z):=by
 unfold IV inv
 rw[Ce,Dz,Nat.mod_eq_of_lt hz]
theorem TB (x y z:Nat) (p:Pt) (hz:z<PN) (h:Rep (fz x) (fz y) (fz z) p):x*IV z%PN=p.1.val∧y*IV z%PN=p.2.val:=by
 obtain⟨h1,h2⟩:=eQ _ _ _ p h
 constructor
 ·have e:fz (x*IV z%PN)=p.1:=by rw[Ce,Cy,Xq z hz,h1]
  rw[← e,Dz,Nat.mod_mod]
 ·have e:fz (y*IV z%PN)=p.2:=by rw[Ce,Cy,Xq z hz,h2]
  rw[← e,Dz,Nat.mod_mod]
theorem XZ (a b:Nat):a%PN=b%PN↔fz a=fz b:=⟨fun h=>by rw[← Ce a,h,Ce],fun h=>by have:=congrArg Fin.val h;exact this⟩
end Go.Proofs.YtnaldciakclccaaGreat
