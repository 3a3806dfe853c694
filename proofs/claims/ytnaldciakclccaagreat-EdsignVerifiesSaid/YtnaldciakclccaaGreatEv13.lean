/- Lemmas of this proof. -/
import Derived.LoopN
import Derived.Deep.LoopGhost
import Derived.Test.YtnaldciakclccaaGreatEv12
import Derived.Test.YtnaldciakclccaaGreatEv01
import Derived.Test.YtnaldciakclccaaGreatEv07
namespace Go.Proofs.YtnaldciakclccaaGreat
set_option maxRecDepth 20000
set_option maxHeartbeats 8000000
set_option linter.unusedSimpArgs false
set_option linter.unusedVariables false
open Go.RowKit Go.Sort
theorem amod (a b n:Nat):(a%n+b%n)%n=(a+b)%n:=(Nat.add_mod a b n).symm
theorem eA:bX<PN:=OK.2.2.2.1
theorem TK:bY<PN:=OK.2.2.2.2
theorem Za (a c:Nat) (h:pm PN 256 P2 a 1%PN=c):IV a=c:=Oz a P2 c ie h
theorem fw:(0+PN-121665)%PN*IV 121666%PN=dN:=by
 rw[Za 121666 37095705934669439343138083508754565189542113879843219016388785533085940283556 (by decide +kernel)]
 decide +kernel
theorem Sh  (w:World):Calls Tryz.prog 66 #[] w fun E w'=>E=.returned (Aa dN)∧Below w.heap.size w w':=by
 have HMIX:=Lh (show Tryz.prog.follows .mixedOrders=true by kernel_rfl)
 go_enter Tryz.func66,Tryz.ntmps66
 have hM0:=Mem.start w
 (go_step;go_step;refine wp_region_lit ?_)
 refine At hM0 (ob:=.cells z4 23 (0,0)) (fun W=>Ab rfl (Cr W)) rfl fun b1 W1 hM1=>?_
 simp only[nmA]
 refine wpList_nil ?_
 ((iterate 3 go_step);refine wp_region_lit ?_)
 refine Ah hM1 (args:=#[.int .u64 0]) (v:=Aa 0) (rcf (enters_of Tryz.func68 rfl rfl)) (Dw 0 (by decide) W1) rfl fun W2 hM2=>?_
 simp only[nmA]
 refine Ah hM2 (args:=#[.int .u64 121665]) (v:=Aa 121665) (rcf (enters_of Tryz.func68 rfl rfl)) (Dw 121665 (by decide) W2) rfl fun W3 hM3=>?_
 simp only[nmA]
 obtain⟨v1,ev1⟩:=exza ((0+PN-121665)%PN)
 have pv1:v1<PN:=by rw[ev1];exact Nat.mod_lt _ Au
 have Kv1:=fun W=>Qj 0 121665 W (by decide +kernel) (by decide +kernel)
 simp only[← ev1] at Kv1
 refine Ah hM3 (args:=#[Aa 0,Aa 121665]) (v:=Aa v1) (rcf (enters_of Tryz.func114 rfl rfl)) (Kv1 W3) rfl fun W4 hM4=>?_
 simp only[nmA]
 refine Ah hM4 (args:=#[.int .u64 121666]) (v:=Aa 121666) (rcf (enters_of Tryz.func68 rfl rfl)) (Dw 121666 (by decide) W4) rfl fun W5 hM5=>?_
 simp only[nmA]
 obtain⟨v2,ev2⟩:=exza (IV 121666)
 have pv2:v2<PN:=by rw[ev2];exact Mv _
 have Kv2:=fun W=>Uu 121666 W (by decide +kernel)
 simp only[← ev2] at Kv2
 refine Ah hM5 (args:=#[Aa 121666]) (v:=Aa v2) (rcf (enters_of Tryz.func69 rfl rfl)) (Kv2 W5) rfl fun W6 hM6=>?_
 simp only[nmA]
 obtain⟨v3,ev3⟩:=exza (v1*v2%PN)
 have pv3:v3<PN:=by rw[ev3];exact Nat.mod_lt _ Au
 have Kv3:=fun W=>Es v1 v2 W pv1 pv2
 simp only[← ev3] at Kv3
 refine Ah hM6 (args:=#[Aa v1,Aa v2]) (v:=Aa v3) (rcf (enters_of Tryz.func67 rfl rfl)) (Kv3 W6) rfl fun W7 hM7=>?_
 simp only[nmA]
 refine Av hM7 0 (cs:=(elR v3)) rfl rfl rfl rfl AG rfl (Ay v3) rfl rfl fun W8 hM8=>?_
 simp only[nm2,nm3] at hM8
 refine wpList_nil ?_
 ((iterate 3 go_step);refine bodyPost_ret (v:=Aa v3) (Ap Tryz.results66 rfl (hM8.load 0 rfl AG)) rfl ⟨?_,hM8.below⟩)
 exact by rw[ev3,ev2,ev1,fw]
theorem IA  (w:World):Calls Tryz.prog 112 #[] w fun E w'=>E=.returned (rpV 0 1 1)∧Below w.heap.size w w':=by
 have HMIX:=Lh (show Tryz.prog.follows .mixedOrders=true by kernel_rfl)
 go_enter Tryz.func112,Tryz.ntmps112
 have hM0:=Mem.start w
 (go_step;go_step;refine wp_region_lit ?_)
 refine At hM0 (ob:=.cells z12 55 (0,0)) (fun W=>Ab rfl (FQ W)) rfl fun b1 W1 hM1=>?_
 simp only[nmA]
 refine wpList_nil ?_
 ((iterate 3 go_step);refine wp_region_lit ?_)
 refine Ah hM1 (args:=#[.int .u64 1]) (v:=Aa 1) (rcf (enters_of Tryz.func68 rfl rfl)) (Dw 1 (by decide) W1) rfl fun W2 hM2=>?_
 simp only[nmA]
 refine Ah hM2 (args:=#[.int .u64 1]) (v:=Aa 1) (rcf (enters_of Tryz.func68 rfl rfl)) (Dw 1 (by decide) W2) rfl fun W3 hM3=>?_
 simp only[nmA]
 refine Ac (v:=rpV 0 1 1) (fun W=>Bq rfl (by simp[Act.eval]) (js 1 1 W)) rfl ?_
 simp only[nmA]
 refine Av hM3 0 (cs:=((rpL 0 1 1).toArray)) rfl rfl rfl rfl Cn rfl (DG 0 1 1) rfl rfl fun W4 hM4=>?_
 simp only[nm2,nm3] at hM4
 refine wpList_nil ?_
 ((iterate 3 go_step);refine bodyPost_ret (v:=rpV 0 1 1) (Ap Tryz.results112 rfl (hM4.load 0 rfl Cn)) rfl ⟨?_,hM4.below⟩)
 exact rfl
theorem JI (X Y:Nat) (w:World):Calls Tryz.prog 72 #[Aa X,Aa Y] w fun E w'=>E=.returned (rpV X Y 1)∧Below w.heap.size w w':=by
 have HMIX:=Lh (show Tryz.prog.follows .mixedOrders=true by kernel_rfl)
 go_enter Tryz.func72,Tryz.ntmps72
 have hM0:=Mem.start w
 (go_step;go_step;refine wp_region_lit ?_)
 refine At hM0 (ob:=.cells (elR X) 23 (0,0)) (fun W=>AK rfl rfl (Jr X W)) rfl fun b1 W1 hM1=>?_
 simp only[nmA]
 refine At hM1 (ob:=.cells (elR Y) 23 (0,0)) (fun W=>AK rfl rfl (Jr Y W)) rfl fun b2 W2 hM2=>?_
 simp only[nmA]
 refine At hM2 (ob:=.cells z12 55 (0,0)) (fun W=>Ab rfl (FQ W)) rfl fun b3 W3 hM3=>?_
 simp only[nmA]
 refine wpList_nil ?_
 ((iterate 3 go_step);refine Ak 4 HMIX.out (by decide) (by kernel_rfl) (by kernel_rfl) ?_)
 refine Ao hM3 2 (v:=Aa X) rfl rfl rfl rfl AG rfl rfl ?_;simp only[nmA]
 refine Ao hM3 1 (v:=Aa Y) rfl rfl rfl rfl AG rfl rfl ?_;simp only[nmA]
 refine Am (args:=#[.int .u64 1]) (v:=Aa 1) (rcf (enters_of Tryz.func68 rfl rfl)) (fun W _=>Dw 1 (by decide) W) rfl rfl ?_;simp only[nmA]
 refine As (v:=rpV X Y 1) (fun W=>Bq rfl (by simp[Act.eval]) (bdR X Y 1 W)) rfl rfl ?_;simp only[nmA]
 refine AO fun d os=>?_
 refine Az fun hap=>?_
 have hM4:=hM3.calls (below_regrown W3 d os)
 clear hap 
 generalize grow (redrawn W3 d) os=W4 at hM4 ⊢
 change wpAny _ _ _ _ 1 _ _ _
 refine A7 (n:=4) (by kernel_rfl) rfl hM4 0 (cs:=((rpL X Y 1).toArray)) rfl rfl rfl rfl Cn rfl (DG X Y 1) rfl rfl fun W5 hM5=>?_
 simp only[nm2,nm3] at hM5
 refine wpAny_done (by kernel_rfl) ?_ _
 ((iterate 3 go_step);refine bodyPost_ret (v:=rpV X Y 1) (Ap Tryz.results72 rfl (hM5.load 0 rfl Cn)) rfl ⟨?_,hM5.below⟩)
 exact rfl
theorem aA (X Y Z:Nat) (hX:X<PN) (hY:Y<PN) (hZ:Z<PN) (w:World):Calls Tryz.prog 53 #[rpV X Y Z] w fun E w'=>E=.returned (rpV ((0+PN-X)%PN) Y Z)∧Below w.heap.size w w':=by
 have HMIX:=Lh (show Tryz.prog.follows .mixedOrders=true by kernel_rfl)
 go_enter Tryz.func53,Tryz.ntmps53
 have hM0:=Mem.start w
 (go_step;go_step;refine wp_region_lit ?_)
 refine At hM0 (ob:=.cells ((rpL X Y Z).toArray) 55 (0,0)) (fun W=>AK rfl rfl (Kk X Y Z W)) rfl fun b1 W1 hM1=>?_
 simp only[nmA]
 refine At hM1 (ob:=.cells z12 55 (0,0)) (fun W=>Ab rfl (FQ W)) rfl fun b2 W2 hM2=>?_
 simp only[nmA]
 refine wpList_nil ?_
 ((iterate 3 go_step);refine Ak 9 HMIX.out (by decide) (by kernel_rfl) (by kernel_rfl) ?_)
 refine Am (args:=#[.int .u64 0]) (v:=Aa 0) (rcf (enters_of Tryz.func68 rfl rfl)) (fun W _=>Dw 0 (by decide) W) rfl rfl ?_;simp only[nmA]
 refine As (v:=.pointer (some ⟨b1,0,none⟩)) (fun W=>AJ rfl rfl (Nd b1 W)) rfl rfl ?_;simp only[nmA]
 refine BJ hM2 1 (v:=Aa X) (sub:=elR X) rfl rfl rfl rfl rfl AG rfl rfl ?_;simp only[nmA]
 obtain⟨v1,ev1⟩:=exza ((0+PN-X)%PN)
 have pv1:v1<PN:=by rw[ev1];exact Nat.mod_lt _ Au
 have Kv1:=fun W=>Qj 0 X W (by decide +kernel) hX
 simp only[← ev1] at Kv1
 refine Am (args:=#[Aa 0,Aa X]) (v:=Aa v1) (rcf (enters_of Tryz.func114 rfl rfl)) (fun W _=>Kv1 W) rfl rfl ?_;simp only[nmA]
 refine As (v:=.pointer (some ⟨b1,4,none⟩)) (fun W=>AJ rfl rfl (Ni b1 W)) rfl rfl ?_;simp only[nmA]
 refine BJ hM2 1 (v:=Aa Y) (sub:=elR Y) rfl rfl rfl rfl rfl AG rfl rfl ?_;simp only[nmA]
 refine As (v:=.pointer (some ⟨b1,8,none⟩)) (fun W=>AJ rfl rfl (UJ b1 W)) rfl rfl ?_;simp only[nmA]
 refine BJ hM2 1 (v:=Aa Z) (sub:=elR Z) rfl rfl rfl rfl rfl AG rfl rfl ?_;simp only[nmA]
 refine As (v:=rpV v1 Y Z) (fun W=>Bq rfl (by simp[Act.eval]) (bdR v1 Y Z W)) rfl rfl ?_;simp only[nmA]
 refine AO fun d os=>?_
 refine Az fun hap=>?_
 have hM3:=hM2.calls (below_regrown W2 d os)
 clear hap 
 generalize grow (redrawn W2 d) os=W3 at hM3 ⊢
 change wpAny _ _ _ _ 1 _ _ _
 refine A7 (n:=9) (by kernel_rfl) rfl hM3 0 (cs:=((rpL v1 Y Z).toArray)) rfl rfl rfl rfl Cn rfl (DG v1 Y Z) rfl rfl fun W4 hM4=>?_
 simp only[nm2,nm3] at hM4
 refine wpAny_done (by kernel_rfl) ?_ _
 ((iterate 3 go_step);refine bodyPost_ret (v:=rpV v1 Y Z) (Ap Tryz.results53 rfl (hM4.load 0 rfl Cn)) rfl ⟨?_,hM4.below⟩)
 exact by rw[ev1]
theorem dH (X Y Z:Nat) (hX:X<PN) (hY:Y<PN) (hZ:Z<PN) (w:World):Calls Tryz.prog 64 #[rpV X Y Z] w fun E w'=>E=.returned (.tuple #[Aa (X*IV Z%PN),Aa (Y*IV Z%PN)])∧Below w.heap.size w w':=by
 have HMIX:=Lh (show Tryz.prog.follows .mixedOrders=true by kernel_rfl)
 go_enter Tryz.func64,Tryz.ntmps64
 have hM0:=Mem.start w
 (go_step;go_step;refine wp_region_lit ?_)
 refine At hM0 (ob:=.cells ((rpL X Y Z).toArray) 55 (0,0)) (fun W=>AK rfl rfl (Kk X Y Z W)) rfl fun b1 W1 hM1=>?_
 simp only[nmA]
 refine At hM1 (ob:=.cells z4 23 (0,0)) (fun W=>Ab rfl (Cr W)) rfl fun b2 W2 hM2=>?_
 simp only[nmA]
 refine At hM2 (ob:=.cells z4 23 (0,0)) (fun W=>Ab rfl (Cr W)) rfl fun b3 W3 hM3=>?_
 simp only[nmA]
 refine wpList_nil ?_
 ((iterate 3 go_step);refine wp_region_lit ?_)
 refine Ac (v:=.pointer (some ⟨b1,8,none⟩)) (fun W=>AJ rfl rfl (UJ b1 W)) rfl ?_
 simp only[nmA]
 refine Hd hM3 2 (v:=Aa Z) (sub:=elR Z) rfl rfl rfl rfl rfl AG rfl ?_
 simp only[nmA]
 obtain⟨v1,ev1⟩:=exza (IV Z)
 have pv1:v1<PN:=by rw[ev1];exact Mv _
 have Kv1:=fun W=>Uu Z W hZ
 simp only[← ev1] at Kv1
 refine Ah hM3 (args:=#[Aa Z]) (v:=Aa v1) (rcf (enters_of Tryz.func69 rfl rfl)) (Kv1 W3) rfl fun W4 hM4=>?_
 simp only[nmA]
 refine At hM4 (ob:=.cells z4 23 (0,0)) (fun W=>Ab rfl (Cr W)) rfl fun b4 W5 hM5=>?_
 simp only[nmA]
 refine Av hM5 0 (cs:=(elR v1)) rfl rfl rfl rfl AG rfl (Ay v1) rfl rfl fun W6 hM6=>?_
 simp only[nm2,nm3] at hM6
 refine wpList_nil ?_
 ((iterate 3 go_step);refine Ak 8 HMIX.out (by decide) (by kernel_rfl) (by kernel_rfl) ?_)
 refine As (v:=.pointer (some ⟨b1,0,none⟩)) (fun W=>AJ rfl rfl (Nd b1 W)) rfl rfl ?_;simp only[nmA]
 refine BJ hM6 3 (v:=Aa X) (sub:=elR X) rfl rfl rfl rfl rfl AG rfl rfl ?_;simp only[nmA]
 refine Ao hM6 0 (v:=Aa v1) rfl rfl rfl rfl AG rfl rfl ?_;simp only[nmA]
 obtain⟨v2,ev2⟩:=exza (X*v1%PN)
 have pv2:v2<PN:=by rw[ev2];exact Nat.mod_lt _ Au
 have Kv2:=fun W=>Es X v1 W hX pv1
 simp only[← ev2] at Kv2
 refine Am (args:=#[Aa X,Aa v1]) (v:=Aa v2) (rcf (enters_of Tryz.func67 rfl rfl)) (fun W _=>Kv2 W) rfl rfl ?_;simp only[nmA]
 refine As (v:=.pointer (some ⟨b1,4,none⟩)) (fun W=>AJ rfl rfl (Ni b1 W)) rfl rfl ?_;simp only[nmA]
 refine BJ hM6 3 (v:=Aa Y) (sub:=elR Y) rfl rfl rfl rfl rfl AG rfl rfl ?_;simp only[nmA]
 refine Ao hM6 0 (v:=Aa v1) rfl rfl rfl rfl AG rfl rfl ?_;simp only[nmA]
 obtain⟨v3,ev3⟩:=exza (Y*v1%PN)
 have pv3:v3<PN:=by rw[ev3];exact Nat.mod_lt _ Au
 have Kv3:=fun W=>Es Y v1 W hY pv1
 simp only[← ev3] at Kv3
 refine Am (args:=#[Aa Y,Aa v1]) (v:=Aa v3) (rcf (enters_of Tryz.func67 rfl rfl)) (fun W _=>Kv3 W) rfl rfl ?_;simp only[nmA]
 refine AO fun d os=>?_
 refine Az fun hap=>?_
 have hM7:=hM6.calls (below_regrown W6 d os)
 clear hap 
 generalize grow (redrawn W6 d) os=W7 at hM7 ⊢
 change wpAny _ _ _ _ 2 _ _ _
 refine A7 (n:=8) (by kernel_rfl) rfl hM7 2 (cs:=(elR v2)) rfl rfl rfl rfl AG rfl (Ay v2) rfl rfl fun W8 hM8=>?_
 simp only[nm2,nm3] at hM8
 refine A7 (n:=9) (by kernel_rfl) rfl hM8 1 (cs:=(elR v3)) rfl rfl rfl rfl AG rfl (Ay v3) rfl rfl fun W9 hM9=>?_
 simp only[nm2,nm3] at hM9
 refine wpAny_done (by kernel_rfl) ?_ _
 ((iterate 3 go_step);refine bodyPost_ret (v:=.tuple #[Aa v2,Aa v3]) (CI Tryz.results64 rfl rfl (hM9.load 2 rfl AG) (hM9.load 1 rfl AG)) rfl ⟨?_,hM9.below⟩)
 exact by rw[ev3,ev2,ev1]
def sqR (Y:Nat):Nat:=(Y*Y%PN+PN-1)%PN*IV ((dN*(Y*Y%PN)%PN+1)%PN)%PN
theorem Kb (Y:Nat):sqR Y<PN:=Nat.mod_lt _ Au
theorem Ff (Y:Nat) (w:World) (hY:Y<PN):Calls Tryz.prog 71 #[Aa Y] w fun E w'=>E=.returned (Aa (sqR Y))∧Below w.heap.size w w':=by
 have HMIX:=Lh (show Tryz.prog.follows .mixedOrders=true by kernel_rfl)
 go_enter Tryz.func71,Tryz.ntmps71
 have hM0:=Mem.start w
 (go_step;go_step;refine wp_region_lit ?_)
 refine At hM0 (ob:=.cells (elR Y) 23 (0,0)) (fun W=>AK rfl rfl (Jr Y W)) rfl fun b1 W1 hM1=>?_
 simp only[nmA]
 refine At hM1 (ob:=.cells z4 23 (0,0)) (fun W=>Ab rfl (Cr W)) rfl fun b2 W2 hM2=>?_
 simp only[nmA]
 refine wpList_nil ?_
 ((iterate 3 go_step);refine wp_region_lit ?_)
 refine AD hM2 1 (v:=Aa Y) rfl rfl rfl rfl AG rfl ?_
 simp only[nmA]
 refine AD hM2 1 (v:=Aa Y) rfl rfl rfl rfl AG rfl ?_
 simp only[nmA]
 obtain⟨v1,ev1⟩:=exza (Y*Y%PN)
 have pv1:v1<PN:=by rw[ev1];exact Nat.mod_lt _ Au
 have Kv1:=fun W=>Es Y Y W hY hY
 simp only[← ev1] at Kv1
 refine Ah hM2 (args:=#[Aa Y,Aa Y]) (v:=Aa v1) (rcf (enters_of Tryz.func67 rfl rfl)) (Kv1 W2) rfl fun W3 hM3=>?_
 simp only[nmA]
 refine At hM3 (ob:=.cells z4 23 (0,0)) (fun W=>Ab rfl (Cr W)) rfl fun b3 W4 hM4=>?_
 simp only[nmA]
 refine Av hM4 0 (cs:=(elR v1)) rfl rfl rfl rfl AG rfl (Ay v1) rfl rfl fun W5 hM5=>?_
 simp only[nm2,nm3] at hM5
 refine wpList_nil ?_
 ((iterate 3 go_step);refine Ak 10 HMIX.out (by decide) (by kernel_rfl) (by kernel_rfl) ?_)
 refine Ao hM5 0 (v:=Aa v1) rfl rfl rfl rfl AG rfl rfl ?_;simp only[nmA]
 refine Am (args:=#[.int .u64 1]) (v:=Aa 1) (rcf (enters_of Tryz.func68 rfl rfl)) (fun W _=>Dw 1 (by decide) W) rfl rfl ?_;simp only[nmA]
 obtain⟨v2,ev2⟩:=exza ((v1+PN-1)%PN)
 have pv2:v2<PN:=by rw[ev2];exact Nat.mod_lt _ Au
 have Kv2:=fun W=>Qj v1 1 W pv1 (by decide +kernel)
 simp only[← ev2] at Kv2
 refine Am (args:=#[Aa v1,Aa 1]) (v:=Aa v2) (rcf (enters_of Tryz.func114 rfl rfl)) (fun W _=>Kv2 W) rfl rfl ?_;simp only[nmA]
 refine Am (args:=#[]) (v:=Aa dN) (rcf (enters_of Tryz.func66 rfl rfl)) (fun W _=>Sh W) rfl rfl ?_;simp only[nmA]
 refine Ao hM5 0 (v:=Aa v1) rfl rfl rfl rfl AG rfl rfl ?_;simp only[nmA]
 obtain⟨v3,ev3⟩:=exza (dN*v1%PN)
 have pv3:v3<PN:=by rw[ev3];exact Nat.mod_lt _ Au
 have Kv3:=fun W=>Es dN v1 W U8.2 pv1
 simp only[← ev3] at Kv3
 refine Am (args:=#[Aa dN,Aa v1]) (v:=Aa v3) (rcf (enters_of Tryz.func67 rfl rfl)) (fun W _=>Kv3 W) rfl rfl ?_;simp only[nmA]
 refine Am (args:=#[.int .u64 1]) (v:=Aa 1) (rcf (enters_of Tryz.func68 rfl rfl)) (fun W _=>Dw 1 (by decide) W) rfl rfl ?_;simp only[nmA]
 obtain⟨v4,ev4⟩:=exza ((v3+1)%PN)
 have pv4:v4<PN:=by rw[ev4];exact Nat.mod_lt _ Au
 have Kv4:=fun W=>TW v3 1 W pv3 (by decide +kernel)
 simp only[← ev4] at Kv4
 refine Am (args:=#[Aa v3,Aa 1]) (v:=Aa v4) (rcf (enters_of Tryz.func128 rfl rfl)) (fun W _=>Kv4 W) rfl rfl ?_;simp only[nmA]
 obtain⟨v5,ev5⟩:=exza (IV v4)
 have pv5:v5<PN:=by rw[ev5];exact Mv _
 have Kv5:=fun W=>Uu v4 W pv4
 simp only[← ev5] at Kv5
 refine Am (args:=#[Aa v4]) (v:=Aa v5) (rcf (enters_of Tryz.func69 rfl rfl)) (fun W _=>Kv5 W) rfl rfl ?_;simp only[nmA]
 obtain⟨v6,ev6⟩:=exza (v2*v5%PN)
 have pv6:v6<PN:=by rw[ev6];exact Nat.mod_lt _ Au
 have Kv6:=fun W=>Es v2 v5 W pv2 pv5
 simp only[← ev6] at Kv6
 refine Am (args:=#[Aa v2,Aa v5]) (v:=Aa v6) (rcf (enters_of Tryz.func67 rfl rfl)) (fun W _=>Kv6 W) rfl rfl ?_;simp only[nmA]
 refine AO fun d os=>?_
 refine Az fun hap=>?_
 have hM6:=hM5.calls (below_regrown W5 d os)
 clear hap 
 generalize grow (redrawn W5 d) os=W6 at hM6 ⊢
 change wpAny _ _ _ _ 1 _ _ _
 refine A7 (n:=10) (by kernel_rfl) rfl hM6 1 (cs:=(elR v6)) rfl rfl rfl rfl AG rfl (Ay v6) rfl rfl fun W7 hM7=>?_
 simp only[nm2,nm3] at hM7
 refine wpAny_done (by kernel_rfl) ?_ _
 ((iterate 3 go_step);refine bodyPost_ret (v:=Aa v6) (Ap Tryz.results71 rfl (hM7.load 1 rfl AG)) rfl ⟨?_,hM7.below⟩)
 exact by unfold sqR;rw[ev6,ev5,ev4,ev3,ev2,ev1]
theorem SQ (X1 Y1 Z1 X2 Y2 Z2:Nat) (hX1:X1<PN) (hY1:Y1<PN) (hZ1:Z1<PN) (hX2:X2<PN) (hY2:Y2<PN) (hZ2:Z2<PN) (w:World):Calls Tryz.prog 116 #[rpV X1 Y1 Z1,rpV X2 Y2 Z2,Aa dN] w fun E w'=>E=.returned (rpV (QX X1 Y1 Z1 X2 Y2 Z2) (Q7 X1 Y1 Z1 X2 Y2 Z2) (PR X1 Y1 Z1 X2 Y2 Z2))∧Below w.heap.size w w':=by
 unfold QX Q7 PR
 have HMIX:=Lh (show Tryz.prog.follows .mixedOrders=true by kernel_rfl)
 go_enter Tryz.func116,Tryz.ntmps116
 have hM0:=Mem.start w
 (go_step;go_step;refine wp_region_lit ?_)
 refine At hM0 (ob:=.cells ((rpL X1 Y1 Z1).toArray) 55 (0,0)) (fun W=>AK rfl rfl (Kk X1 Y1 Z1 W)) rfl fun b1 W1 hM1=>?_
 simp only[nmA]
 refine At hM1 (ob:=.cells ((rpL X2 Y2 Z2).toArray) 55 (0,0)) (fun W=>AK rfl rfl (Kk X2 Y2 Z2 W)) rfl fun b2 W2 hM2=>?_
 simp only[nmA]
 refine At hM2 (ob:=.cells (elR dN) 23 (0,0)) (fun W=>AK rfl rfl (Jr dN W)) rfl fun b3 W3 hM3=>?_
 simp only[nmA]
 refine At hM3 (ob:=.cells z12 55 (0,0)) (fun W=>Ab rfl (FQ W)) rfl fun b4 W4 hM4=>?_
 simp only[nmA]
 refine wpList_nil ?_
 ((iterate 3 go_step);refine wp_region_lit ?_)
 refine Ac (v:=.pointer (some ⟨b1,8,none⟩)) (fun W=>AJ rfl rfl (UJ b1 W)) rfl ?_
 simp only[nmA]
 refine Hd hM4 3 (v:=Aa Z1) (sub:=elR Z1) rfl rfl rfl rfl rfl AG rfl ?_
 simp only[nmA]
 refine Ac (v:=.pointer (some ⟨b2,8,none⟩)) (fun W=>AJ rfl rfl (UJ b2 W)) rfl ?_
 simp only[nmA]
 refine Hd hM4 2 (v:=Aa Z2) (sub:=elR Z2) rfl rfl rfl rfl rfl AG rfl ?_
 simp only[nmA]
 obtain⟨v1,ev1⟩:=exza (Z1*Z2%PN)
 have pv1:v1<PN:=by rw[ev1];exact Nat.mod_lt _ Au
 have Kv1:=fun W=>Es Z1 Z2 W hZ1 hZ2
 simp only[← ev1] at Kv1
 refine Ah hM4 (args:=#[Aa Z1,Aa Z2]) (v:=Aa v1) (rcf (enters_of Tryz.func67 rfl rfl)) (Kv1 W4) rfl fun W5 hM5=>?_
 simp only[nmA]
 refine At hM5 (ob:=.cells z4 23 (0,0)) (fun W=>Ab rfl (Cr W)) rfl fun b5 W6 hM6=>?_
 simp only[nmA]
 refine Av hM6 0 (cs:=(elR v1)) rfl rfl rfl rfl AG rfl (Ay v1) rfl rfl fun W7 hM7=>?_
 simp only[nm2,nm3] at hM7
 refine wpList_nil ?_
 ((iterate 3 go_step);refine wp_region_lit ?_)
 refine AD hM7 0 (v:=Aa v1) rfl rfl rfl rfl AG rfl ?_
 simp only[nmA]
 refine AD hM7 0 (v:=Aa v1) rfl rfl rfl rfl AG rfl ?_
 simp only[nmA]
 obtain⟨v2,ev2⟩:=exza (v1*v1%PN)
 have pv2:v2<PN:=by rw[ev2];exact Nat.mod_lt _ Au
 have Kv2:=fun W=>Es v1 v1 W pv1 pv1
 simp only[← ev2] at Kv2
 refine Ah hM7 (args:=#[Aa v1,Aa v1]) (v:=Aa v2) (rcf (enters_of Tryz.func67 rfl rfl)) (Kv2 W7) rfl fun W8 hM8=>?_
 simp only[nmA]
 refine At hM8 (ob:=.cells z4 23 (0,0)) (fun W=>Ab rfl (Cr W)) rfl fun b6 W9 hM9=>?_
 simp only[nmA]
 refine Av hM9 0 (cs:=(elR v2)) rfl rfl rfl rfl AG rfl (Ay v2) rfl rfl fun W10 hM10=>?_
 simp only[nm2,nm3] at hM10
 refine wpList_nil ?_
 ((iterate 3 go_step);refine Ak 12 HMIX.out (by decide) (by kernel_rfl) (by kernel_rfl) ?_)
 refine As (v:=.pointer (some ⟨b1,0,none⟩)) (fun W=>AJ rfl rfl (Nd b1 W)) rfl rfl ?_;simp only[nmA]
 refine BJ hM10 5 (v:=Aa X1) (sub:=elR X1) rfl rfl rfl rfl rfl AG rfl rfl ?_;simp only[nmA]
 refine As (v:=.pointer (some ⟨b2,0,none⟩)) (fun W=>AJ rfl rfl (Nd b2 W)) rfl rfl ?_;simp only[nmA]
 refine BJ hM10 4 (v:=Aa X2) (sub:=elR X2) rfl rfl rfl rfl rfl AG rfl rfl ?_;simp only[nmA]
 obtain⟨v3,ev3⟩:=exza (X1*X2%PN)
 have pv3:v3<PN:=by rw[ev3];exact Nat.mod_lt _ Au
 have Kv3:=fun W=>Es X1 X2 W hX1 hX2
 simp only[← ev3] at Kv3
 refine Am (args:=#[Aa X1,Aa X2]) (v:=Aa v3) (rcf (enters_of Tryz.func67 rfl rfl)) (fun W _=>Kv3 W) rfl rfl ?_;simp only[nmA]
 refine As (v:=.pointer (some ⟨b1,4,none⟩)) (fun W=>AJ rfl rfl (Ni b1 W)) rfl rfl ?_;simp only[nmA]
 refine BJ hM10 5 (v:=Aa Y1) (sub:=elR Y1) rfl rfl rfl rfl rfl AG rfl rfl ?_;simp only[nmA]
 refine As (v:=.pointer (some ⟨b2,4,none⟩)) (fun W=>AJ rfl rfl (Ni b2 W)) rfl rfl ?_;simp only[nmA]
 refine BJ hM10 4 (v:=Aa Y2) (sub:=elR Y2) rfl rfl rfl rfl rfl AG rfl rfl ?_;simp only[nmA]
 obtain⟨v4,ev4⟩:=exza (Y1*Y2%PN)
 have pv4:v4<PN:=by rw[ev4];exact Nat.mod_lt _ Au
 have Kv4:=fun W=>Es Y1 Y2 W hY1 hY2
 simp only[← ev4] at Kv4
 refine Am (args:=#[Aa Y1,Aa Y2]) (v:=Aa v4) (rcf (enters_of Tryz.func67 rfl rfl)) (fun W _=>Kv4 W) rfl rfl ?_;simp only[nmA]
 refine Ce (.cells z4 23 (0,0)) rfl rfl (fun A W=>Ab rfl (Cr W)) ?_;simp only[List.nil_append,List.cons_append]
 refine Ce (.cells z4 23 (0,0)) rfl rfl (fun A W=>Ab rfl (Cr W)) ?_;simp only[List.nil_append,List.cons_append]
 refine AO fun d os=>?_
 refine Bm (t:=9) rfl fun b7 lb7 gb7=>?_
 refine Bm (t:=10) rfl fun b8 lb8 gb8=>?_
 refine Az fun hap=>?_
 simp only[nmA] at hap ⊢
 have nb7b8:b7≠b8:=hap.ne 10 11 rfl rfl rfl rfl rfl rfl rfl
 have hM11:=hM10.news2 (below_regrown W10 d os) lb7 gb7 lb8 gb8 nb7b8
 clear hap lb7 gb7 lb8 gb8 nb7b8
 generalize grow (redrawn W10 d) os=W11 at hM11 ⊢
 change wpAny _ _ _ _ 2 _ _ _
 refine A7 (n:=12) (by kernel_rfl) rfl hM11 0 (cs:=(elR v3)) rfl rfl rfl rfl AG rfl (Ay v3) rfl rfl fun W12 hM12=>?_
 simp only[nm2,nm3] at hM12
 refine A7 (n:=13) (by kernel_rfl) rfl hM12 1 (cs:=(elR v4)) rfl rfl rfl rfl AG rfl (Ay v4) rfl rfl fun W13 hM13=>?_
 simp only[nm2,nm3] at hM13
 refine wpAny_done (by kernel_rfl) ?_ _
 ((iterate 3 go_step);refine Ak 6 HMIX.out (by decide) (by kernel_rfl) (by kernel_rfl) ?_)
 refine Ao hM13 5 (v:=Aa dN) rfl rfl rfl rfl AG rfl rfl ?_;simp only[nmA]
 refine Ao hM13 0 (v:=Aa v3) rfl rfl rfl rfl AG rfl rfl ?_;simp only[nmA]
 refine Ao hM13 1 (v:=Aa v4) rfl rfl rfl rfl AG rfl rfl ?_;simp only[nmA]
 obtain⟨v5,ev5⟩:=exza (v3*v4%PN)
 have pv5:v5<PN:=by rw[ev5];exact Nat.mod_lt _ Au
 have Kv5:=fun W=>Es v3 v4 W pv3 pv4
 simp only[← ev5] at Kv5
 refine Am (args:=#[Aa v3,Aa v4]) (v:=Aa v5) (rcf (enters_of Tryz.func67 rfl rfl)) (fun W _=>Kv5 W) rfl rfl ?_;simp only[nmA]
 obtain⟨v6,ev6⟩:=exza (dN*v5%PN)
 have pv6:v6<PN:=by rw[ev6];exact Nat.mod_lt _ Au
 have Kv6:=fun W=>Es dN v5 W U8.2 pv5
 simp only[← ev6] at Kv6
 refine Am (args:=#[Aa dN,Aa v5]) (v:=Aa v6) (rcf (enters_of Tryz.func67 rfl rfl)) (fun W _=>Kv6 W) rfl rfl ?_;simp only[nmA]
 refine Ce (.cells z4 23 (0,0)) rfl rfl (fun A W=>Ab rfl (Cr W)) ?_;simp only[List.nil_append,List.cons_append]
 refine AO fun d os=>?_
 refine Bm (t:=11) rfl fun b9 lb9 gb9=>?_
 refine Az fun hap=>?_
 simp only[nmA] at hap ⊢
 have hM14:=hM13.news1 (below_regrown W13 d os) lb9 gb9 
 clear hap lb9 gb9
 generalize grow (redrawn W13 d) os=W14 at hM14 ⊢
 change wpAny _ _ _ _ 1 _ _ _
 refine A7 (n:=6) (by kernel_rfl) rfl hM14 0 (cs:=(elR v6)) rfl rfl rfl rfl AG rfl (Ay v6) rfl rfl fun W15 hM15=>?_
 simp only[nm2,nm3] at hM15
 refine wpAny_done (by kernel_rfl) ?_ _
 ((iterate 3 go_step);refine Ak 12 HMIX.out (by decide) (by kernel_rfl) (by kernel_rfl) ?_)
 refine As (v:=.pointer (some ⟨b1,0,none⟩)) (fun W=>AJ rfl rfl (Nd b1 W)) rfl rfl ?_;simp only[nmA]
 refine BJ hM15 8 (v:=Aa X1) (sub:=elR X1) rfl rfl rfl rfl rfl AG rfl rfl ?_;simp only[nmA]
 refine As (v:=.pointer (some ⟨b2,4,none⟩)) (fun W=>AJ rfl rfl (Ni b2 W)) rfl rfl ?_;simp only[nmA]
 refine BJ hM15 7 (v:=Aa Y2) (sub:=elR Y2) rfl rfl rfl rfl rfl AG rfl rfl ?_;simp only[nmA]
 obtain⟨v7,ev7⟩:=exza (X1*Y2%PN)
 have pv7:v7<PN:=by rw[ev7];exact Nat.mod_lt _ Au
 have Kv7:=fun W=>Es X1 Y2 W hX1 hY2
 simp only[← ev7] at Kv7
 refine Am (args:=#[Aa X1,Aa Y2]) (v:=Aa v7) (rcf (enters_of Tryz.func67 rfl rfl)) (fun W _=>Kv7 W) rfl rfl ?_;simp only[nmA]
 refine As (v:=.pointer (some ⟨b1,4,none⟩)) (fun W=>AJ rfl rfl (Ni b1 W)) rfl rfl ?_;simp only[nmA]
 refine BJ hM15 8 (v:=Aa Y1) (sub:=elR Y1) rfl rfl rfl rfl rfl AG rfl rfl ?_;simp only[nmA]
 refine As (v:=.pointer (some ⟨b2,0,none⟩)) (fun W=>AJ rfl rfl (Nd b2 W)) rfl rfl ?_;simp only[nmA]
 refine BJ hM15 7 (v:=Aa X2) (sub:=elR X2) rfl rfl rfl rfl rfl AG rfl rfl ?_;simp only[nmA]
 obtain⟨v8,ev8⟩:=exza (Y1*X2%PN)
 have pv8:v8<PN:=by rw[ev8];exact Nat.mod_lt _ Au
 have Kv8:=fun W=>Es Y1 X2 W hY1 hX2
 simp only[← ev8] at Kv8
 refine Am (args:=#[Aa Y1,Aa X2]) (v:=Aa v8) (rcf (enters_of Tryz.func67 rfl rfl)) (fun W _=>Kv8 W) rfl rfl ?_;simp only[nmA]
 obtain⟨v9,ev9⟩:=exza ((v7+v8)%PN)
 have pv9:v9<PN:=by rw[ev9];exact Nat.mod_lt _ Au
 have Kv9:=fun W=>TW v7 v8 W pv7 pv8
 simp only[← ev9] at Kv9
 refine Am (args:=#[Aa v7,Aa v8]) (v:=Aa v9) (rcf (enters_of Tryz.func128 rfl rfl)) (fun W _=>Kv9 W) rfl rfl ?_;simp only[nmA]
 refine Ce (.cells z4 23 (0,0)) rfl rfl (fun A W=>Ab rfl (Cr W)) ?_;simp only[List.nil_append,List.cons_append]
 refine AO fun d os=>?_
 refine Bm (t:=12) rfl fun b10 lb10 gb10=>?_
 refine Az fun hap=>?_
 simp only[nmA] at hap ⊢
 have hM16:=hM15.news1 (below_regrown W15 d os) lb10 gb10 
 clear hap lb10 gb10
 generalize grow (redrawn W15 d) os=W16 at hM16 ⊢
 change wpAny _ _ _ _ 1 _ _ _
 refine A7 (n:=12) (by kernel_rfl) rfl hM16 0 (cs:=(elR v9)) rfl rfl rfl rfl AG rfl (Ay v9) rfl rfl fun W17 hM17=>?_
 simp only[nm2,nm3] at hM17
 refine wpAny_done (by kernel_rfl) ?_ _
 ((iterate 3 go_step);refine Ak 8 HMIX.out (by decide) (by kernel_rfl) (by kernel_rfl) ?_)
 refine Ao hM17 4 (v:=Aa v2) rfl rfl rfl rfl AG rfl rfl ?_;simp only[nmA]
 refine Ao hM17 1 (v:=Aa v6) rfl rfl rfl rfl AG rfl rfl ?_;simp only[nmA]
 obtain⟨v10,ev10⟩:=exza ((v2+PN-v6)%PN)
 have pv10:v10<PN:=by rw[ev10];exact Nat.mod_lt _ Au
 have Kv10:=fun W=>Qj v2 v6 W pv2 pv6
 simp only[← ev10] at Kv10
 refine Am (args:=#[Aa v2,Aa v6]) (v:=Aa v10) (rcf (enters_of Tryz.func114 rfl rfl)) (fun W _=>Kv10 W) rfl rfl ?_;simp only[nmA]
 refine Ao hM17 4 (v:=Aa v2) rfl rfl rfl rfl AG rfl rfl ?_;simp only[nmA]
 refine Ao hM17 1 (v:=Aa v6) rfl rfl rfl rfl AG rfl rfl ?_;simp only[nmA]
 obtain⟨v11,ev11⟩:=exza ((v2+v6)%PN)
 have pv11:v11<PN:=by rw[ev11];exact Nat.mod_lt _ Au
 have Kv11:=fun W=>TW v2 v6 W pv2 pv6
 simp only[← ev11] at Kv11
 refine Am (args:=#[Aa v2,Aa v6]) (v:=Aa v11) (rcf (enters_of Tryz.func128 rfl rfl)) (fun W _=>Kv11 W) rfl rfl ?_;simp only[nmA]
 refine Ce (.cells z4 23 (0,0)) rfl rfl (fun A W=>Ab rfl (Cr W)) ?_;simp only[List.nil_append,List.cons_append]
 refine Ce (.cells z4 23 (0,0)) rfl rfl (fun A W=>Ab rfl (Cr W)) ?_;simp only[List.nil_append,List.cons_append]
 refine AO fun d os=>?_
 refine Bm (t:=13) rfl fun b11 lb11 gb11=>?_
 refine Bm (t:=14) rfl fun b12 lb12 gb12=>?_
 refine Az fun hap=>?_
 simp only[nmA] at hap ⊢
 have nb11b12:b11≠b12:=hap.ne 6 7 rfl rfl rfl rfl rfl rfl rfl
 have hM18:=hM17.news2 (below_regrown W17 d os) lb11 gb11 lb12 gb12 nb11b12
 clear hap lb11 gb11 lb12 gb12 nb11b12
 generalize grow (redrawn W17 d) os=W18 at hM18 ⊢
 change wpAny _ _ _ _ 2 _ _ _
 refine A7 (n:=8) (by kernel_rfl) rfl hM18 0 (cs:=(elR v10)) rfl rfl rfl rfl AG rfl (Ay v10) rfl rfl fun W19 hM19=>?_
 simp only[nm2,nm3] at hM19
 refine A7 (n:=9) (by kernel_rfl) rfl hM19 1 (cs:=(elR v11)) rfl rfl rfl rfl AG rfl (Ay v11) rfl rfl fun W20 hM20=>?_
 simp only[nm2,nm3] at hM20
 refine wpAny_done (by kernel_rfl) ?_ _
 ((iterate 3 go_step);refine Ak 16 HMIX.out (by decide) (by kernel_rfl) (by kernel_rfl) ?_)
 refine Ao hM20 7 (v:=Aa v1) rfl rfl rfl rfl AG rfl rfl ?_;simp only[nmA]
 refine Ao hM20 2 (v:=Aa v9) rfl rfl rfl rfl AG rfl rfl ?_;simp only[nmA]
 obtain⟨v12,ev12⟩:=exza (v1*v9%PN)
 have pv12:v12<PN:=by rw[ev12];exact Nat.mod_lt _ Au
 have Kv12:=fun W=>Es v1 v9 W pv1 pv9
 simp only[← ev12] at Kv12
 refine Am (args:=#[Aa v1,Aa v9]) (v:=Aa v12) (rcf (enters_of Tryz.func67 rfl rfl)) (fun W _=>Kv12 W) rfl rfl ?_;simp only[nmA]
 refine Ao hM20 0 (v:=Aa v10) rfl rfl rfl rfl AG rfl rfl ?_;simp only[nmA]
 obtain⟨v13,ev13⟩:=exza (v12*v10%PN)
 have pv13:v13<PN:=by rw[ev13];exact Nat.mod_lt _ Au
 have Kv13:=fun W=>Es v12 v10 W pv12 pv10
 simp only[← ev13] at Kv13
 refine Am (args:=#[Aa v12,Aa v10]) (v:=Aa v13) (rcf (enters_of Tryz.func67 rfl rfl)) (fun W _=>Kv13 W) rfl rfl ?_;simp only[nmA]
 refine Ao hM20 7 (v:=Aa v1) rfl rfl rfl rfl AG rfl rfl ?_;simp only[nmA]
 refine Ao hM20 5 (v:=Aa v4) rfl rfl rfl rfl AG rfl rfl ?_;simp only[nmA]
 refine Ao hM20 4 (v:=Aa v3) rfl rfl rfl rfl AG rfl rfl ?_;simp only[nmA]
 obtain⟨v14,ev14⟩:=exza ((v4+v3)%PN)
 have pv14:v14<PN:=by rw[ev14];exact Nat.mod_lt _ Au
 have Kv14:=fun W=>TW v4 v3 W pv4 pv3
 simp only[← ev14] at Kv14
 refine Am (args:=#[Aa v4,Aa v3]) (v:=Aa v14) (rcf (enters_of Tryz.func128 rfl rfl)) (fun W _=>Kv14 W) rfl rfl ?_;simp only[nmA]
 obtain⟨v15,ev15⟩:=exza (v1*v14%PN)
 have pv15:v15<PN:=by rw[ev15];exact Nat.mod_lt _ Au
 have Kv15:=fun W=>Es v1 v14 W pv1 pv14
 simp only[← ev15] at Kv15
 refine Am (args:=#[Aa v1,Aa v14]) (v:=Aa v15) (rcf (enters_of Tryz.func67 rfl rfl)) (fun W _=>Kv15 W) rfl rfl ?_;simp only[nmA]
 refine Ao hM20 1 (v:=Aa v11) rfl rfl rfl rfl AG rfl rfl ?_;simp only[nmA]
 obtain⟨v16,ev16⟩:=exza (v15*v11%PN)
 have pv16:v16<PN:=by rw[ev16];exact Nat.mod_lt _ Au
 have Kv16:=fun W=>Es v15 v11 W pv15 pv11
 simp only[← ev16] at Kv16
 refine Am (args:=#[Aa v15,Aa v11]) (v:=Aa v16) (rcf (enters_of Tryz.func67 rfl rfl)) (fun W _=>Kv16 W) rfl rfl ?_;simp only[nmA]
 refine Ao hM20 0 (v:=Aa v10) rfl rfl rfl rfl AG rfl rfl ?_;simp only[nmA]
 refine Ao hM20 1 (v:=Aa v11) rfl rfl rfl rfl AG rfl rfl ?_;simp only[nmA]
 obtain⟨v17,ev17⟩:=exza (v10*v11%PN)
 have pv17:v17<PN:=by rw[ev17];exact Nat.mod_lt _ Au
 have Kv17:=fun W=>Es v10 v11 W pv10 pv11
 simp only[← ev17] at Kv17
 refine Am (args:=#[Aa v10,Aa v11]) (v:=Aa v17) (rcf (enters_of Tryz.func67 rfl rfl)) (fun W _=>Kv17 W) rfl rfl ?_;simp only[nmA]
 refine As (v:=rpV v13 v16 v17) (fun W=>Bq rfl (by simp[Act.eval]) (bdR v13 v16 v17 W)) rfl rfl ?_;simp only[nmA]
 refine AO fun d os=>?_
 refine Az fun hap=>?_
 have hM21:=hM20.calls (below_regrown W20 d os)
 clear hap 
 generalize grow (redrawn W20 d) os=W21 at hM21 ⊢
 change wpAny _ _ _ _ 1 _ _ _
 refine A7 (n:=16) (by kernel_rfl) rfl hM21 8 (cs:=((rpL v13 v16 v17).toArray)) rfl rfl rfl rfl Cn rfl (DG v13 v16 v17) rfl rfl fun W22 hM22=>?_
 simp only[nm2,nm3] at hM22
 refine wpAny_done (by kernel_rfl) ?_ _
 ((iterate 3 go_step);refine bodyPost_ret (v:=rpV v13 v16 v17) (Ap Tryz.results116 rfl (hM22.load 8 rfl Cn)) rfl ⟨?_,hM22.below⟩)
 exact by rw[ev17,ev16,ev15,ev14,ev13,ev12,ev11,ev10,ev9,ev8,ev7,ev6,ev5,ev4,ev3,ev2,ev1];simp only[amod]
theorem il:IV 5=11579208923731619542357098500868790785326998466564056403945758400791312963990:=Za 5 _ (by decide +kernel)
theorem gZ:4*IV 5%PN=bY:=by
 rw[il]
 decide +kernel
def UT:Nat:=26187595835145689230469591415084376402084551887632582719101735842039498021991
theorem fT (Y u c r:Nat) (h1:(dN*(Y*Y%PN)%PN+1)%PN=u) (h2:IV u=c) (h3:(Y*Y%PN+PN-1)%PN*c%PN=r):sqR Y=r:=by
 unfold sqR
 rw[h1,h2,h3]
theorem f7:sqR bY=UT:=fT bY 35320460721920060721965471946471712506633951349663716574434581141966314745466 36615873626505047815401509688526422966742341385236691817538452001808239043262 UT (by decide +kernel) (Za _ _ (by decide +kernel)) (by decide +kernel)
theorem Ns:Bu iV (sqR bY)=bX∧okN iV (sqR bY)=true:=by
 rw[f7]
 obtain⟨e1,e2⟩:=Zr iV UT 42783823269122696939284341094755422415180979639778424813682678720006717057747 (gA UT _ (by decide +kernel))
 rw[e1,e2]
 decide +kernel
theorem im (w:World):Calls Tryz.prog 132 #[Aa 4,Aa 5] w fun e w'=>e=.returned (Aa bY)∧Below w.heap.size w w':=by
 have h:=QU 4 5 w (by decide +kernel) (by decide +kernel)
 rw[gZ] at h
 exact h
theorem fV (I:Nat) (hI:I=IV 5) (w:World):Calls Tryz.prog 67 #[Aa 4,Aa I] w fun e w'=>e=.returned (Aa bY)∧Below w.heap.size w w':=by
 have h:=Es 4 I w (by decide +kernel) (by rw[hI];exact Mv _)
 rw[hI] at h ⊢
 rw[gZ] at h
 exact h
theorem JO (w:World):Calls Tryz.prog 25 #[] w fun E w'=>E=.returned (rpV bX bY 1)∧Below w.heap.size w w':=by
 have HMIX:=Lh (show Tryz.prog.follows .mixedOrders=true by kernel_rfl)
 go_enter Tryz.func25,Tryz.ntmps25
 have hM0:=Mem.start w
 (go_step;go_step;refine wp_region_lit ?_)
 refine At hM0 (ob:=.cells z12 55 (0,0)) (fun W=>Ab rfl (FQ W)) rfl fun b1 W1 hM1=>?_
 simp only[nmA]
 refine wpList_nil ?_
 ((iterate 3 go_step);refine wp_region_lit ?_)
 refine Ah hM1 (args:=#[.int .u64 4]) (v:=Aa 4) (rcf (enters_of Tryz.func68 rfl rfl)) (Dw 4 (by decide) W1) rfl fun W2 hM2=>?_
 simp only[nmA]
 refine Ah hM2 (args:=#[.int .u64 5]) (v:=Aa 5) (rcf (enters_of Tryz.func68 rfl rfl)) (Dw 5 (by decide) W2) rfl fun W3 hM3=>?_
 simp only[nmA]
 obtain⟨v1,ev1⟩:=exza (IV 5)
 have pv1:v1<PN:=by rw[ev1];exact Mv _
 have Kv1:=fun W=>Uu 5 W (by decide +kernel)
 simp only[← ev1] at Kv1
 refine Ah hM3 (args:=#[Aa 5]) (v:=Aa v1) (rcf (enters_of Tryz.func69 rfl rfl)) (Kv1 W3) rfl fun W4 hM4=>?_
 simp only[nmA]
 refine Ah hM4 (args:=#[Aa 4,Aa v1]) (v:=Aa bY) (rcf (enters_of Tryz.func67 rfl rfl)) (fV v1 ev1 W4) rfl fun W5 hM5=>?_
 simp only[nmA]
 refine At hM5 (ob:=.cells z4 23 (0,0)) (fun W=>Ab rfl (Cr W)) rfl fun b2 W6 hM6=>?_
 simp only[nmA]
 refine Av hM6 0 (cs:=(elR bY)) rfl rfl rfl rfl AG rfl (Ay bY) rfl rfl fun W7 hM7=>?_
 simp only[nm2,nm3] at hM7
 refine wpList_nil ?_
 ((iterate 3 go_step);refine wp_region_lit ?_)
 refine AD hM7 0 (v:=Aa bY) rfl rfl rfl rfl AG rfl ?_
 simp only[nmA]
 obtain⟨v2,ev2⟩:=exza (sqR bY)
 have pv2:v2<PN:=by rw[ev2];exact Kb _
 have Kv2:=fun W=>Ff bY W TK
 simp only[← ev2] at Kv2
 refine Ah hM7 (args:=#[Aa bY]) (v:=Aa v2) (rcf (enters_of Tryz.func71 rfl rfl)) (Kv2 W7) rfl fun W8 hM8=>?_
 simp only[nmA]
 obtain⟨v3,ev3⟩:=exza (Bu iV v2)
 have pv3:v3<PN:=by rw[ev3];exact BI _
 have Kv3:=fun W=>MO v2 W pv2
 simp only[← ev3] at Kv3
 obtain⟨ok1,eok1⟩:=exza (okN iV v2)
 simp only[← eok1] at Kv3
 refine Ah hM8 (args:=#[Aa v2]) (v:=.tuple #[Aa v3,.bool ok1]) (rcf (enters_of Tryz.func70 rfl rfl)) (Kv3 W8) rfl fun W9 hM9=>?_
 simp only[nmA]
 refine Ad (.tuple #[Aa v3,.bool ok1]) ?_
 simp only[nmA]
 refine Ad (Aa v3) ?_
 simp only[nmA]
 refine Ad (.bool ok1) ?_
 simp only[nmA]
 refine At hM9 (ob:=.cells z4 23 (0,0)) (fun W=>Ab rfl (Cr W)) rfl fun b3 W10 hM10=>?_
 simp only[nmA]
 refine Av hM10 0 (cs:=(elR v3)) rfl rfl rfl rfl AG rfl (Ay v3) rfl rfl fun W11 hM11=>?_
 simp only[nm2,nm3] at hM11
 refine Ad (.bool ok1) ?_
 simp only[nmA]
 refine wpList_nil ?_
 ((iterate 3 go_step);refine wp_region_lit ?_)
 refine AD hM11 0 (v:=Aa v3) rfl rfl rfl rfl AG rfl ?_
 simp only[nmA]
 refine AD hM11 1 (v:=Aa bY) rfl rfl rfl rfl AG rfl ?_
 simp only[nmA]
 refine Ah hM11 (args:=#[Aa v3,Aa bY]) (v:=rpV v3 bY 1) (rcf (enters_of Tryz.func72 rfl rfl)) (JI v3 bY W11) rfl fun W12 hM12=>?_
 simp only[nmA]
 refine Av hM12 2 (cs:=((rpL v3 bY 1).toArray)) rfl rfl rfl rfl Cn rfl (DG v3 bY 1) rfl rfl fun W13 hM13=>?_
 simp only[nm2,nm3] at hM13
 refine wpList_nil ?_
 ((iterate 3 go_step);refine bodyPost_ret (v:=rpV v3 bY 1) (Ap Tryz.results25 rfl (hM13.load 2 rfl Cn)) rfl ⟨?_,hM13.below⟩)
 exact by rw[ev3,ev2,Ns.1]
theorem aK (Y:Nat) (hY:Y<PN) (h45:∀ w,Calls Tryz.prog 132 #[Aa 4,Aa 5] w fun e w'=>e=.returned (Aa Y)∧Below w.heap.size w w') (w:World):Calls Tryz.prog 96 #[] w fun E w'=>E=.returned (ptV (Bu iV (sqR Y)) Y 1 (Bu iV (sqR Y)*Y%PN))∧Below w.heap.size w w':=by
 have HMIX:=Lh (show Tryz.prog.follows .mixedOrders=true by kernel_rfl)
 go_enter Tryz.func96,Tryz.ntmps96
 have hM0:=Mem.start w
 (go_step;go_step;refine wp_region_lit ?_)
 refine At hM0 (ob:=.cells z16 39 (0,0)) (fun W=>Ab rfl (Ew W)) rfl fun b1 W1 hM1=>?_
 simp only[nmA]
 refine wpList_nil ?_
 ((iterate 3 go_step);refine wp_region_lit ?_)
 refine Ah hM1 (args:=#[.int .u64 4]) (v:=Aa 4) (rcf (enters_of Tryz.func34 rfl rfl)) (Cq 4 (by decide) W1) rfl fun W2 hM2=>?_
 simp only[nmA]
 refine Ah hM2 (args:=#[.int .u64 5]) (v:=Aa 5) (rcf (enters_of Tryz.func34 rfl rfl)) (Cq 5 (by decide) W2) rfl fun W3 hM3=>?_
 simp only[nmA]
 refine Ah hM3 (args:=#[Aa 4,Aa 5]) (v:=Aa Y) (rcf (enters_of Tryz.func132 rfl rfl)) (h45 W3) rfl fun W4 hM4=>?_
 simp only[nmA]
 refine At hM4 (ob:=.cells z4 36 (0,0)) (fun W=>Ab rfl (Bk W)) rfl fun b2 W5 hM5=>?_
 simp only[nmA]
 refine Av hM5 0 (cs:=(elR Y)) rfl rfl rfl rfl Aw rfl (Ay Y) rfl rfl fun W6 hM6=>?_
 simp only[nm2,nm3] at hM6
 refine wpList_nil ?_
 ((iterate 3 go_step);refine wp_region_lit ?_)
 refine AD hM6 0 (v:=Aa Y) rfl rfl rfl rfl Aw rfl ?_
 simp only[nmA]
 refine AD hM6 0 (v:=Aa Y) rfl rfl rfl rfl Aw rfl ?_
 simp only[nmA]
 refine FN hM6 (f:=fun b=>.slice (some ⟨b,0,none⟩) 2 2) (ob:=.cells (elR Y++elR Y) 36 (0,0)) (fun W=>Ax rfl (by simp[Act.eval]) (bs2 Y Y W)) rfl fun b3 W7 hM7=>?_
 simp only[nmA]
 obtain⟨v1,ev1⟩:=exza (Y*Y%PN)
 have pv1:v1<PN:=by rw[ev1];exact Nat.mod_lt _ Au
 have Kv1:=Ck Y Y hY hY
 rw[← ev1] at Kv1
 refine Ah hM7 (args:=#[.slice (some ⟨b3,0,none⟩) 2 2]) (v:=Aa v1) (rcf (enters_of Tryz.func76 rfl rfl)) (Kv1 b3 W7 (hM7.get 0 rfl)) rfl fun W8 hM8=>?_
 simp only[nmA]
 refine At hM8 (ob:=.cells z4 36 (0,0)) (fun W=>Ab rfl (Bk W)) rfl fun b4 W9 hM9=>?_
 simp only[nmA]
 refine Av hM9 0 (cs:=(elR v1)) rfl rfl rfl rfl Aw rfl (Ay v1) rfl rfl fun W10 hM10=>?_
 simp only[nm2,nm3] at hM10
 refine wpList_nil ?_
 ((iterate 3 go_step);refine wp_region_lit ?_)
 refine Ah hM10 (args:=#[.int .u64 1]) (v:=Aa 1) (rcf (enters_of Tryz.func34 rfl rfl)) (Cq 1 (by decide) W10) rfl fun W11 hM11=>?_
 simp only[nmA]
 refine At hM11 (ob:=.cells z4 36 (0,0)) (fun W=>Ab rfl (Bk W)) rfl fun b5 W12 hM12=>?_
 simp only[nmA]
 refine Av hM12 0 (cs:=(elR 1)) rfl rfl rfl rfl Aw rfl (Ay 1) rfl rfl fun W13 hM13=>?_
 simp only[nm2,nm3] at hM13
 refine wpList_nil ?_
 ((iterate 3 go_step);refine IL 16 14 rfl rfl (Id rfl) (by kernel_rfl) (by decide) HMIX.out (by decide) (by kernel_rfl) (by kernel_rfl) ?_)
 refine Ao hM13 1 (v:=Aa v1) rfl rfl rfl rfl Aw rfl rfl ?_;simp only[nmA]
 refine Ao hM13 0 (v:=Aa 1) rfl rfl rfl rfl Aw rfl rfl ?_;simp only[nmA]
 obtain⟨v2,ev2⟩:=exza ((v1+PN-1)%PN)
 have pv2:v2<PN:=by rw[ev2];exact Nat.mod_lt _ Au
 have Kv2:=fun W=>Ex v1 1 W pv1 (by decide +kernel)
 simp only[← ev2] at Kv2
 refine Am (args:=#[Aa v1,Aa 1]) (v:=Aa v2) (rcf (enters_of Tryz.func80 rfl rfl)) (fun W _=>Kv2 W) rfl rfl ?_;simp only[nmA]
 refine Am (args:=#[]) (v:=Aa dN) (rcf (enters_of Tryz.func78 rfl rfl)) (fun W _=>MQ W) rfl rfl ?_;simp only[nmA]
 refine Ao hM13 1 (v:=Aa v1) rfl rfl rfl rfl Aw rfl rfl ?_;simp only[nmA]
 refine AX (n:=2) (L:=elR dN++elR v1) (T:=36) (fun W=>Ax rfl (by simp[Act.eval]) (bs2 dN v1 W)) rfl rfl ?_;simp only[List.nil_append,List.cons_append]
 obtain⟨v3,ev3⟩:=exza (dN*v1%PN)
 have pv3:v3<PN:=by rw[ev3];exact Nat.mod_lt _ Au
 have Kv3:=Ck dN v1 U8.2 pv1
 rw[← ev3] at Kv3
 refine A9 5 20 (v:=Aa v3) rfl rfl (fun _=>rfl) (fun b W=>AR W (enters_of Tryz.func76 rfl rfl) rfl (by simp[Act.eval,Act.put])) (fun b W h=>Kv3 b W h) ?_;simp only[nmA]
 refine Ao hM13 0 (v:=Aa 1) rfl rfl rfl rfl Aw rfl rfl ?_;simp only[nmA]
 refine AX (n:=2) (L:=elR v3++elR 1) (T:=36) (fun W=>Ax rfl (by simp[Act.eval]) (bs2 v3 1 W)) rfl rfl ?_;simp only[List.nil_append,List.cons_append]
 obtain⟨v4,ev4⟩:=exza ((v3+1)%PN)
 have pv4:v4<PN:=by rw[ev4];exact Nat.mod_lt _ Au
 have Kv4:=Ee v3 1 pv3 (by decide +kernel)
 rw[← ev4] at Kv4
 refine A9 8 23 (v:=Aa v4) rfl rfl (fun _=>rfl) (fun b W=>AR W (enters_of Tryz.func77 rfl rfl) rfl (by simp[Act.eval,Act.put])) (fun b W h=>Kv4 b W h) ?_;simp only[nmA]
 obtain⟨v5,ev5⟩:=exza (v2*IV v4%PN)
 have pv5:v5<PN:=by rw[ev5];exact Nat.mod_lt _ Au
 have Kv5:=fun W=>QU v2 v4 W pv2 pv4
 simp only[← ev5] at Kv5
 refine Am (args:=#[Aa v2,Aa v4]) (v:=Aa v5) (rcf (enters_of Tryz.func132 rfl rfl)) (fun W _=>Kv5 W) rfl rfl ?_;simp only[nmA]
 obtain⟨v6,ev6⟩:=exza (Bu iV v5)
 have pv6:v6<PN:=by rw[ev6];exact BI _
 have Kv6:=fun W=>X6 v5 W pv5
 simp only[← ev6] at Kv6
 obtain⟨ok1,eok1⟩:=exza (okN iV v5)
 simp only[← eok1] at Kv6
 refine Am (args:=#[Aa v5]) (v:=.tuple #[Aa v6,.bool ok1]) (rcf (enters_of Tryz.func79 rfl rfl)) (fun W _=>Kv6 W) rfl rfl ?_;simp only[nmA]
 refine AM (.tuple #[Aa v6,.bool ok1]) ?_;simp only[nmA]
 refine AM (Aa v6) ?_;simp only[nmA]
 refine AM (.bool ok1) ?_;simp only[nmA]
 refine Ce (.cells z4 36 (0,0)) rfl rfl (fun A W=>Ab rfl (Bk W)) ?_;simp only[List.nil_append,List.cons_append]
 refine AO fun d os=>?_
 refine Bb (t:=20) rfl fun s5=>?_
 refine Bb (t:=23) rfl fun s8=>?_
 refine Bm (t:=4) rfl fun b6 lb6 gb6=>?_
 refine Az fun hap=>?_
 simp only[nmA] at hap ⊢
 have hM14:=hM13.news1 (below_regrown W13 d os) lb6 gb6 
 clear hap lb6 gb6
 generalize grow (redrawn W13 d) os=W14 at hM14 ⊢
 change wpAny _ _ _ _ 2 _ _ _
 refine A7 (n:=16) (by kernel_rfl) rfl hM14 0 (cs:=(elR v6)) rfl rfl rfl rfl Aw rfl (Ay v6) rfl rfl fun W15 hM15=>?_
 simp only[nm2,nm3] at hM15
 refine QZ (n:=17) (v:=.bool ok1) (by kernel_rfl) rfl (fun _=>rfl) rfl rfl ?_
 simp only[nmA]
 refine wpAny_done (by kernel_rfl) ?_ _
 refine NoPanic.normal ?_
 ((iterate 3 go_step);refine wp_region_lit ?_)
 refine AD hM15 0 (v:=Aa v6) rfl rfl rfl rfl Aw rfl ?_
 simp only[nmA]
 refine AD hM15 4 (v:=Aa Y) rfl rfl rfl rfl Aw rfl ?_
 simp only[nmA]
 obtain⟨v7,ev7⟩:=exza (v6*Y%PN)
 have pv7:v7<PN:=by rw[ev7];exact Nat.mod_lt _ Au
 have KA:=fun W=>Sp v6 Y W pv6 hY
 simp only[← ev7] at KA
 refine Ah hM15 (args:=#[Aa v6,Aa Y]) (v:=ptV v6 Y 1 v7) (rcf (enters_of Tryz.func73 rfl rfl)) (KA W15) rfl fun W16 hM16=>?_
 simp only[nmA]
 refine Av hM16 5 (cs:=((ptL v6 Y 1 v7).toArray)) rfl rfl rfl rfl AS rfl (G6 v6 Y 1 v7) rfl rfl fun W17 hM17=>?_
 simp only[nm2,nm3] at hM17
 refine wpList_nil ?_
 ((iterate 3 go_step);refine bodyPost_ret (v:=ptV v6 Y 1 v7) (Ap Tryz.results96 rfl (hM17.load 5 rfl AS)) rfl ⟨?_,hM17.below⟩)
 exact by
  unfold sqR
  rw[ev7,ev6,ev5,ev4,ev3,ev2,ev1]
theorem XI (w:World):Calls Tryz.prog 96 #[] w fun E w'=>E=.returned (ptV bX bY 1 (bX*bY%PN))∧Below w.heap.size w w':=by
 have h:=aK bY TK im w
 rw[Ns.1] at h
 exact h
theorem Ul:z16.all (·.oneCell')=true:=by simp[z16,Value.oneCell']
abbrev N3:=Nat × Nat × Nat
def MW (a b:N3):N3:=(QX a.1 a.2.1 a.2.2 b.1 b.2.1 b.2.2,Q7 a.1 a.2.1 a.2.2 b.1 b.2.1 b.2.2,PR a.1 a.2.1 a.2.2 b.1 b.2.1 b.2.2)
def In3 (a:N3):Prop:=a.1<PN∧a.2.1<PN∧a.2.2<PN
theorem Jh (a b:N3):In3 (MW a b):=⟨Nat.mod_lt _ Au,Nat.mod_lt _ Au,Nat.mod_lt _ Au⟩
def tms (k:Nat) (q:N3):Nat→N3
 | 0=>(0,1,1)
 | m+1=>if k/2^(255-m)%2=1 then MW (MW (tms k q m) (tms k q m)) q else MW (tms k q m) (tms k q m)
theorem dU (k:Nat) (q:N3):∀ m,In3 (tms k q m)
 | 0=>by
   show In3 (0,1,1)
   exact⟨by decide +kernel,by decide +kernel,by decide +kernel⟩
 | m+1=>by
   unfold tms
   split
   ·exact Jh _ _
   ·exact Jh _ _
theorem rof' (k:Nat) (hk:k<B64^4) (w:World):Calls Tryz.prog 108 #[Aa k] w fun e w'=>∃ g,e=.returned (.slice (some ⟨g,0,none⟩) 16 16)∧w'.heap[g]?=some (.cells (Bw (dg k) 16).toArray 22 (0,0))∧w.heap.size≤g∧Below w.heap.size w w' :=
 (CX k w hk).mono fun e w' ⟨g,h1,h2,h3,h4⟩=>⟨g,h1,h2.1,h3,h4⟩
theorem gU (k i:Nat) (n:Int) (bt:Nat) (hn:n=(i:Int)) (hb:k/2^i%2=bt) (hi:i≤100000) (hk:k<B64^4) (g:Nat) (W:World) (h:W.heap[g]?=some (.cells (Bw (dg k) 16).toArray 22 (0,0))) :
    Calls Tryz.prog 124 #[.slice (some ⟨g,0,none⟩) 16 16,.int .i64 n] W fun e w'=>e=.returned (.int .u64 (bt:Int))∧Below W.heap.size W w':=by
 have ho:By W g 16 k:=⟨h,by have:B64^4=65536^16:=by decide +kernel
                            omega,by decide⟩
 have hc:=LH (some ⟨g,0,none⟩) 16 16 k i W (ho.is 16 (Nat.le_refl _)) hi
 rw[hn,← hb]
 exact hc.mono fun e w' ⟨h1,h2⟩=>by
  subst h2
  exact⟨h1,Below.refl _ _⟩
theorem WO (n:Int) (x y:Operand) (W:World):(do eqGuard .geq 3 x y (.int .i64 n) (.int .i64 0);binOp .geq 3 (.int .i64 n) (.int .i64 0):Sem Value).run Tryz.prog W=.ok (.bool (decide (0≤n))) W:=by
 go_simp
theorem Nv (n:Int) (x y:Operand) (W:World) (h0:0≤n) (h1:n≤1000000):(do eqGuard .sub 3 x y (.int .i64 n) (.int .i64 1);binOp .sub 3 (.int .i64 n) (.int .i64 1):Sem Value).run Tryz.prog W=.ok (.int .i64 (n-1)) W:=by
 have e:IntKind.i64.wrap (n-1)=n-1:=IntWalk.i64_in _ (by omega)
 go_simp
theorem Vh (n:Nat) (x y:Operand) (W:World):(do eqGuard .eql 22 x y (.int .u64 (n:Int)) (.int .u64 1);binOp .eql 22 (.int .u64 (n:Int)) (.int .u64 1):Sem Value).run Tryz.prog W=.ok (.bool (decide (n=1))) W:=by
 have e:((n:Int) == 1)=decide (n=1):=by
  by_cases h:n=1
  ·subst h;rfl
  ·rw[decide_eq_false h]
   exact beq_eq_false_iff_ne.2 (by omega)
 go_simp
theorem L4 (a b:N3) (w:World) (ha:In3 a) (hb:In3 b):Calls Tryz.prog 116 #[rpV a.1 a.2.1 a.2.2,rpV b.1 b.2.1 b.2.2,Aa dN] w fun E w'=>E=.returned (rpV (MW a b).1 (MW a b).2.1 (MW a b).2.2)∧Below w.heap.size w w' :=
 SQ _ _ _ _ _ _ ha.1 ha.2.1 ha.2.2 hb.1 hb.2.1 hb.2.2 w
theorem WF (k:Nat) (q:N3) (w:World) (hk:k<B64^4) (iq:In3 q):Calls Tryz.prog 65 #[Aa k,rpV q.1 q.2.1 q.2.2,Aa dN] w fun E w'=>E=.returned (rpV (tms k q 256).1 (tms k q 256).2.1 (tms k q 256).2.2)∧Below w.heap.size w w':=by
 have HMIX:=Lh (show Tryz.prog.follows .mixedOrders=true by kernel_rfl)
 go_enter Tryz.func65,Tryz.ntmps65
 have hM0:=Mem.start w
 (go_step;go_step;refine wp_region_lit ?_)
 refine At hM0 (ob:=.cells (elR k) 23 (0,0)) (fun W=>AK rfl rfl (Jr k W)) rfl fun b1 W1 hM1=>?_
 simp only[nmA]
 refine At hM1 (ob:=.cells ((rpL q.1 q.2.1 q.2.2).toArray) 55 (0,0)) (fun W=>AK rfl rfl (Kk _ _ _ W)) rfl fun b2 W2 hM2=>?_
 simp only[nmA]
 refine At hM2 (ob:=.cells (elR dN) 23 (0,0)) (fun W=>AK rfl rfl (Jr dN W)) rfl fun b3 W3 hM3=>?_
 simp only[nmA]
 refine At hM3 (ob:=.cells z12 55 (0,0)) (fun W=>Ab rfl (FQ W)) rfl fun b4 W4 hM4=>?_
 simp only[nmA]
 refine wpList_nil ?_
 ((iterate 3 go_step);refine wp_region_lit ?_)
 refine AD hM4 3 (v:=Aa k) rfl rfl rfl rfl AG rfl ?_
 simp only[nmA]
 refine YV hM4 (args:=#[Aa k]) (v:=fun b=>.slice (some ⟨b,0,none⟩) 16 16) (ob:=.cells ((Bw (dg k) 16).toArray) 22 (0,0)) (rcf (enters_of Tryz.func108 rfl rfl)) (rof' k hk W4) rfl fun b5 W5 hM5=>?_
 simp only[nmA]
 refine Ad (.slice (some ⟨b5,0,none⟩) 16 16) ?_
 simp only[nmA]
 refine wpList_nil ?_
 ((iterate 3 go_step);refine wp_region_lit ?_)
 refine Ah hM5 (args:=#[]) (v:=rpV 0 1 1) (rcf (enters_of Tryz.func112 rfl rfl)) (IA W5) rfl fun W6 hM6=>?_
 simp only[nmA]
 refine At hM6 (ob:=.cells z12 55 (0,0)) (fun W=>Ab rfl (FQ W)) rfl fun b6 W7 hM7=>?_
 simp only[nmA]
 refine Av hM7 0 (cs:=((rpL 0 1 1).toArray)) rfl rfl rfl rfl Cn rfl (DG _ _ _) rfl rfl fun W8 hM8=>?_
 simp only[nm2,nm3] at hM8
 refine wpList_nil ?_
 ((iterate 4 go_step);refine wp_region_lit ?_)
 refine Ad (.int .i64 255) ?_
 simp only[nmA]
 refine wpList_nil ?_
 ((iterate 3 go_step);go_loopw [9] (fun i wr=>∃ m:Nat,m≤256∧i=.int .i64 (255-(m:Int))∧Mem w [(b6,.cells ((rpL (tms k q m).1 (tms k q m).2.1 (tms k q m).2.2).toArray) 55 (0,0)),(b5,.cells ((Bw (dg k) 16).toArray) 22 (0,0)),(b4,.cells z12 55 (0,0)),(b3,.cells (elR dN) 23 (0,0)),(b2,.cells ((rpL q.1 q.2.1 q.2.2).toArray) 55 (0,0)),(b1,.cells (elR k) 23 (0,0))] wr) (fun i _=>(Go.RowKit.intOf i+1).toNat))
 case atStart=>exact⟨0,by omega,rfl,hM8⟩
 case round =>
  obtain⟨m,hm,rfl,hR⟩:=hrel
  clear hM1 hM2 hM3 hM4 hM5 hM6 hM7 hM8
  obtain⟨n,hn⟩:∃ n:Int,n=255-(m:Int):=⟨_,rfl⟩
  rw[← hn]
  obtain⟨a0,ea0⟩:=exza (tms k q m)
  have ia0:In3 a0:=by rw[ea0];exact dU k q m
  rw[← ea0] at hR
  ((iterate 3 go_step);refine wp_region_lit ?_)
  refine Ad (.int .i64 n) ?_
  simp only[nmA]
  obtain⟨c1,hc1⟩:=exza (decide (0≤n))
  refine Ac (v:=.bool c1) (fun W=>Ag rfl rfl rfl (by rw[hc1];exact WO n _ _ W)) rfl ?_
  simp only[nmA]
  refine wpList_nil ?_
  cases c1
  ·skip
   have hm6:m=256:=by
    have h9:=of_decide_eq_false hc1.symm
    omega
   subst hm6
   ((iterate 9 go_step);refine wp_region_lit ?_)
   refine AD hR 0 (v:=rpV a0.1 a0.2.1 a0.2.2) rfl rfl rfl rfl Cn rfl ?_
   simp only[nmA]
   refine Av hR 2 (cs:=((rpL a0.1 a0.2.1 a0.2.2).toArray)) rfl rfl rfl rfl Cn rfl (DG _ _ _) rfl rfl fun W10 hM10=>?_
   simp only[nm2,nm3] at hM10
   refine wpList_nil ?_
   ((iterate 3 go_step);refine bodyPost_ret (v:=rpV a0.1 a0.2.1 a0.2.2) (Ap Tryz.results65 rfl (hM10.load 2 rfl Cn)) rfl ⟨?_,hM10.below⟩)
   exact by rw[ea0]
  ·skip
   have hn0:0≤n:=of_decide_eq_true hc1.symm
   have hn1:n≤1000000:=by omega
   have hml:m<256:=by omega
   have hni:n=((255-m:Nat):Int):=by omega
   obtain⟨bt,hbt⟩:=exzb (k/2^(255-m)%2)
   ((iterate 9 go_step);refine wp_region_lit ?_)
   refine AD hR 0 (v:=rpV a0.1 a0.2.1 a0.2.2) rfl rfl rfl rfl Cn rfl ?_
   simp only[nmA]
   refine AD hR 0 (v:=rpV a0.1 a0.2.1 a0.2.2) rfl rfl rfl rfl Cn rfl ?_
   simp only[nmA]
   refine AD hR 3 (v:=Aa dN) rfl rfl rfl rfl AG rfl ?_
   simp only[nmA]
   obtain⟨a1,ea1⟩:=exza (MW a0 a0)
   have ia1:In3 a1:=by rw[ea1];exact Jh _ _
   have Ka1:=fun W=>L4 a0 a0 W ia0 ia0
   simp only[← ea1] at Ka1
   refine Ah hR (args:=#[rpV a0.1 a0.2.1 a0.2.2,rpV a0.1 a0.2.1 a0.2.2,Aa dN]) (v:=rpV a1.1 a1.2.1 a1.2.2) (rcf (enters_of Tryz.func116 rfl rfl)) (Ka1 wr) rfl fun W10 hM10=>?_
   simp only[nmA]
   refine Av hM10 0 (cs:=((rpL a1.1 a1.2.1 a1.2.2).toArray)) rfl rfl rfl rfl Cn rfl (DG _ _ _) rfl rfl fun W11 hM11=>?_
   simp only[nm2,nm3] at hM11
   refine wpList_nil ?_
   ((iterate 3 go_step);refine wp_region_lit ?_)
   refine Ad (.slice (some ⟨b5,0,none⟩) 16 16) ?_
   simp only[nmA]
   refine Ad (.int .i64 n) ?_
   simp only[nmA]
   refine Ah hM11 (args:=#[.slice (some ⟨b5,0,none⟩) 16 16,.int .i64 n]) (v:=.int .u64 (bt:Int)) (rcf (enters_of Tryz.func124 rfl rfl)) (gU k (255-m) n bt hni hbt (by omega) hk b5 W11 (hM11.get 1 rfl)) rfl fun W12 hM12=>?_
   simp only[nmA]
   obtain⟨c2,hc2⟩:=exza (decide (bt=1))
   refine Ac (v:=.bool c2) (fun W=>Ag rfl rfl rfl (by rw[hc2];exact Vh bt _ _ W)) rfl ?_
   simp only[nmA]
   refine wpList_nil ?_
   cases c2
   ·skip
    have hb1:¬ bt=1:=of_decide_eq_false hc2.symm
    ((iterate 6 go_step);refine wp_region_lit ?_)
    refine Ad (.int .i64 n) ?_
    simp only[nmA]
    refine Ac (v:=.int .i64 (n-1)) (fun W=>Ag rfl rfl rfl (Nv n _ _ W hn0 hn1)) rfl ?_
    simp only[nmA]
    refine Ad (.int .i64 (n-1)) ?_
    simp only[nmA]
    refine wpList_nil ?_
    go_roundw
    case rel =>
     have hn2:n-1=255-((m+1:Nat):Int):=by omega
     refine⟨_,_,_,_,_,_,_,_,_,_,_,_,_,_,_,_,_,?_,rfl⟩
     refine⟨m+1,by omega,congrArg (Value.int .i64) hn2,?_⟩
     have ht:tms k q (m+1)=a1:=by
      unfold tms
      rw[hbt,if_neg hb1,← ea0,← ea1]
     rw[ht]
     exact hM12
    case measure=>simp[Go.RowKit.intOf];omega
   ·skip
    have hb1:bt=1:=of_decide_eq_true hc2.symm
    ((iterate 3 go_step);refine wp_region_lit ?_)
    refine AD hM12 0 (v:=rpV a1.1 a1.2.1 a1.2.2) rfl rfl rfl rfl Cn rfl ?_
    simp only[nmA]
    refine AD hM12 4 (v:=rpV q.1 q.2.1 q.2.2) rfl rfl rfl rfl Cn rfl ?_
    simp only[nmA]
    refine AD hM12 3 (v:=Aa dN) rfl rfl rfl rfl AG rfl ?_
    simp only[nmA]
    obtain⟨a2,ea2⟩:=exza (MW a1 q)
    have ia2:In3 a2:=by rw[ea2];exact Jh _ _
    have Ka2:=fun W=>L4 a1 q W ia1 iq
    simp only[← ea2] at Ka2
    refine Ah hM12 (args:=#[rpV a1.1 a1.2.1 a1.2.2,rpV q.1 q.2.1 q.2.2,Aa dN]) (v:=rpV a2.1 a2.2.1 a2.2.2) (rcf (enters_of Tryz.func116 rfl rfl)) (Ka2 W12) rfl fun W13 hM13=>?_
    simp only[nmA]
    refine Av hM13 0 (cs:=((rpL a2.1 a2.2.1 a2.2.2).toArray)) rfl rfl rfl rfl Cn rfl (DG _ _ _) rfl rfl fun W14 hM14=>?_
    simp only[nm2,nm3] at hM14
    refine wpList_nil ?_
    (go_step;go_step;refine wp_region_lit ?_)
    refine Ad (.int .i64 n) ?_
    simp only[nmA]
    refine Ac (v:=.int .i64 (n-1)) (fun W=>Ag rfl rfl rfl (Nv n _ _ W hn0 hn1)) rfl ?_
    simp only[nmA]
    refine Ad (.int .i64 (n-1)) ?_
    simp only[nmA]
    refine wpList_nil ?_
    go_roundw
    case rel =>
     have hn2:n-1=255-((m+1:Nat):Int):=by omega
     refine⟨_,_,_,_,_,_,_,_,_,_,_,_,_,_,_,_,_,?_,rfl⟩
     refine⟨m+1,by omega,congrArg (Value.int .i64) hn2,?_⟩
     have ht:tms k q (m+1)=a2:=by
      unfold tms
      rw[hbt,if_pos hb1,← ea0,← ea1,← ea2]
     rw[ht]
     exact hM14
    case measure=>simp[Go.RowKit.intOf];omega
def Ext (X Y Z T:Fp) (p:Fp × Fp):Prop:=Z≠0∧p.1*Z=X∧p.2*Z=Y∧p.1*p.2*Z=T
theorem Ext.rep {X Y Z T:Fp} {p:Fp × Fp} (h:Ext X Y Z T p):Rep X Y Z p:=⟨h.1,h.2.1,h.2.2.1⟩
section
variable {α:Type} [Lean.Grind.CommRing α]
theorem Wn (x1 y1 z1 x2 y2 z2 d u v:α) (hu:(1+d*x1*x2*y1*y2)*u=1) (hv:(1-d*x1*x2*y1*y2)*v=1) :
    let e:=(x1*z1+y1*z1)*(x2*z2+y2*z2)-(x1*z1*(x2*z2)+y1*z1*(y2*z2));let dts:=d*(x1*y1*z1)*(x2*y2*z2);let f:=z1*z2-dts;let g:=z1*z2+dts;let h:=y1*z1*(y2*z2)+x1*z1*(x2*z2)
    f=z1*z2*(1-d*x1*x2*y1*y2)∧g=z1*z2*(1+d*x1*x2*y1*y2)∧(x1*y2+y1*x2)*u*(f*g)=e*f∧(y1*y2+x1*x2)*v*(f*g)=g*h∧(x1*y2+y1*x2)*u*((y1*y2+x1*x2)*v)*(f*g)=e*h:=by
 intro e dts f g h
 have e1:f=z1*z2*(1-d*x1*x2*y1*y2):=by clear hu hv;grind
 have e2:g=z1*z2*(1+d*x1*x2*y1*y2):=by clear hu hv;grind
 have e3:e=z1*z2*(x1*y2+y1*x2):=by clear hu hv e1 e2;grind
 have e4:h=z1*z2*(y1*y2+x1*x2):=by clear hu hv e1 e2 e3;grind
 refine⟨e1,e2,?_,?_,?_⟩
 all_goals
  rw[e1,e2]
  first | rw[e3] | skip
  first | rw[e4] | skip
  clear e1 e2 e3 e4
  generalize d*x1*x2*y1*y2=k at *
  generalize x1*y2+y1*x2=A at *
  generalize y1*y2+x1*x2=B at *
  generalize z1*z2=c at *
  grind
theorem QN (x y z d u v:α) (hp:y*y-x*x=1+d*(x*x)*(y*y)) (hu:(1+d*x*x*y*y)*u=1) (hv:(1-d*x*x*y*y)*v=1) :
    let g:=y*z*(y*z)-x*z*(x*z);let f:=(z*z+z*z)-g;let e:=x*z*(y*z)+x*z*(y*z);let h:=y*z*(y*z)+x*z*(x*z)
    f=z*z*(1-d*x*x*y*y)∧g=z*z*(1+d*x*x*y*y)∧(x*y+y*x)*u*(f*g)=e*f∧(y*y+x*x)*v*(f*g)=g*h∧(x*y+y*x)*u*((y*y+x*x)*v)*(f*g)=e*h:=by
 intro g f e h
 have e1:f=z*z*(1-d*x*x*y*y):=by clear hu hv;grind
 have e2:g=z*z*(1+d*x*x*y*y):=by clear hu hv e1;grind
 have e3:e=z*z*(x*y+y*x):=by clear hu hv e1 e2 hp;grind
 have e4:h=z*z*(y*y+x*x):=by clear hu hv e1 e2 e3 hp;grind
 refine⟨e1,e2,?_,?_,?_⟩
 all_goals
  rw[e1,e2]
  first | rw[e3] | skip
  first | rw[e4] | skip
  clear e1 e2 e3 e4 hp
  generalize d*x*x*y*y=k at *
  generalize x*y+y*x=A at *
  generalize y*y+x*x=B at *
  generalize z*z=c at *
  grind
end
theorem aQ (X Y Z T U V W S:Fp) (p q:Fp × Fp) (hp:On p) (hq:On q) (h1:Ext X Y Z T p) (h2:Ext U V W S q) :
    let e:=(X+Y)*(U+V)-(X*U+Y*V);let f:=Z*W-dF*T*S;let g:=Z*W+dF*T*S;let h:=Y*V+X*U;Ext (e*f) (g*h) (f*g) (e*h) (Bj p q):=by
 intro e f g h
 obtain⟨u,v,hu,hv,ep⟩:=Ds p q hp hq
 obtain⟨n1,rfl,rfl,rfl⟩:=h1
 obtain⟨n2,rfl,rfl,rfl⟩:=h2
 obtain⟨w1,w2⟩:=whole p q hp hq
 obtain⟨r1,r2,r3,r4,r5⟩:=Wn p.1 p.2 Z q.1 q.2 W dF u v hu hv
 rw[ep]
 refine⟨?_,r3,r4,r5⟩
 have m1:f≠0:=by
  show Z*W-dF*(p.1*p.2*Z)*(q.1*q.2*W)≠0
  rw[r1]
  exact Co (Co n1 n2) w2
 have m2:g≠0:=by
  show Z*W+dF*(p.1*p.2*Z)*(q.1*q.2*W)≠0
  rw[r2]
  exact Co (Co n1 n2) w1
 exact Co m1 m2
theorem Wm (X Y Z T:Fp) (p:Fp × Fp) (hp:On p) (h1:Ext X Y Z T p) :
    let g:=Y*Y-X*X;let f:=(Z*Z+Z*Z)-g;let e:=X*Y+X*Y;let h:=Y*Y+X*X;Ext (e*f) (g*h) (f*g) (e*h) (Bj p p):=by
 intro g f e h
 obtain⟨u,v,hu,hv,ep⟩:=Ds p p hp hp
 obtain⟨n1,rfl,rfl,rfl⟩:=h1
 obtain⟨w1,w2⟩:=whole p p hp hp
 obtain⟨r1,r2,r3,r4,r5⟩:=QN p.1 p.2 Z dF u v hp hu hv
 rw[ep]
 refine⟨?_,r3,r4,r5⟩
 have m2:g≠0:=by
  show p.2*Z*(p.2*Z)-p.1*Z*(p.1*Z)≠0
  rw[r2]
  exact Co (Co n1 n1) w1
 have m1:f≠0:=by
  show (Z*Z+Z*Z)-(p.2*Z*(p.2*Z)-p.1*Z*(p.1*Z))≠0
  rw[r1]
  exact Co (Co n1 n1) w2
 exact Co m1 m2
theorem bM (X Y Z T:Fp) (p:Fp × Fp) (h:Ext X Y Z T p):Ext (-X) Y Z (-T) (Kw p):=by
 obtain⟨n,rfl,rfl,rfl⟩:=h
 refine⟨n,?_,rfl,?_⟩
 ·exact Lean.Grind.Ring.neg_mul _ _
 ·show -p.1*p.2*Z = -(p.1*p.2*Z)
  rw[Lean.Grind.Ring.neg_mul,Lean.Grind.Ring.neg_mul]
theorem fA (X Y Z:Fp) (p:Fp × Fp) (h:Rep X Y Z p):X*inv Z=p.1∧Y*inv Z=p.2:=by
 obtain⟨n,rfl,rfl⟩:=h
 have i:=OQ Z n
 constructor
 ·rw[Lean.Grind.Semiring.mul_assoc,i,Lean.Grind.Semiring.mul_one]
 ·rw[Lean.Grind.Semiring.mul_assoc,i,Lean.Grind.Semiring.mul_one]
end Go.Proofs.YtnaldciakclccaaGreat
