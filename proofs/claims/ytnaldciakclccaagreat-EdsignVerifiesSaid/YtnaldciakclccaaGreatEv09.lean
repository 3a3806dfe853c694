/- Lemmas of this proof. -/
import Derived.Test.YtnaldciakclccaaGreatEv08
import Derived.Test.YtnaldciakclccaaGreatEv05
namespace Go.Proofs.YtnaldciakclccaaGreat
set_option maxRecDepth 20000
set_option maxHeartbeats 8000000
set_option linter.unusedSimpArgs false
set_option linter.unusedVariables false
open Go.RowKit Go.Sort
def bF (X Y Z:Nat):Nat:=(((X*Y%PN)+(X*Y%PN))%PN)*((((Z*Z%PN)+(Z*Z%PN))%PN+PN-(((Y*Y%PN)+PN-(X*X%PN))%PN))%PN)%PN
def cP (X Y:Nat):Nat:=(((Y*Y%PN)+PN-(X*X%PN))%PN)*(((Y*Y%PN)+(X*X%PN))%PN)%PN
def dI (X Y Z:Nat):Nat:=((((Z*Z%PN)+(Z*Z%PN))%PN+PN-(((Y*Y%PN)+PN-(X*X%PN))%PN))%PN)*(((Y*Y%PN)+PN-(X*X%PN))%PN)%PN
def co (X Y:Nat):Nat:=(((X*Y%PN)+(X*Y%PN))%PN)*(((Y*Y%PN)+(X*X%PN))%PN)%PN
theorem Tl (X Y Z T:Nat) (hX:X<PN) (hY:Y<PN) (hZ:Z<PN) (hT:T<PN) (hzZ:0<Z) (w:World):Calls Tryz.prog 161 #[ptV X Y Z T] w fun E w'=>E=.returned (ptV (bF X Y Z) (cP X Y) (dI X Y Z) (co X Y))∧Below w.heap.size w w':=by
 unfold bF cP dI co
 have HMIX:=Lh (show Tryz.prog.follows .mixedOrders=true by kernel_rfl)
 go_enter Tryz.func161,Tryz.ntmps161
 have hM0:=Mem.start w
 (go_step;go_step;refine wp_region_lit ?_)
 refine At hM0 (ob:=.cells ((ptL X Y Z T).toArray) 39 (0,0)) (fun W=>AK rfl rfl (L8 X Y Z T W)) rfl fun b1 W1 hM1=>?_
 simp only[nmA]
 refine At hM1 (ob:=.cells z16 39 (0,0)) (fun W=>Ab rfl (Ew W)) rfl fun b2 W2 hM2=>?_
 simp only[nmA]
 refine wpList_nil ?_
 ((iterate 3 go_step);refine wp_region_lit ?_)
 refine AD hM2 1 (v:=ptV X Y Z T) rfl rfl rfl rfl AS rfl ?_
 simp only[nmA]
 refine Ah hM2 (args:=#[ptV X Y Z T]) (v:=.tuple #[Aa X,Aa Y,Aa Z,Aa T]) (rcf (enters_of Tryz.func82 rfl rfl)) (Fr X Y Z T hX hY hZ hT hzZ W2) rfl fun W3 hM3=>?_
 simp only[nmA]
 refine Ad (.tuple #[Aa X,Aa Y,Aa Z,Aa T]) ?_
 simp only[nmA]
 refine Ad (Aa X) ?_
 simp only[nmA]
 refine Ad (Aa Y) ?_
 simp only[nmA]
 refine Ad (Aa Z) ?_
 simp only[nmA]
 refine Ad (Aa T) ?_
 simp only[nmA]
 refine At hM3 (ob:=.cells z4 36 (0,0)) (fun W=>Ab rfl (Bk W)) rfl fun b3 W4 hM4=>?_
 simp only[nmA]
 refine At hM4 (ob:=.cells z4 36 (0,0)) (fun W=>Ab rfl (Bk W)) rfl fun b4 W5 hM5=>?_
 simp only[nmA]
 refine At hM5 (ob:=.cells z4 36 (0,0)) (fun W=>Ab rfl (Bk W)) rfl fun b5 W6 hM6=>?_
 simp only[nmA]
 refine At hM6 (ob:=.cells z4 36 (0,0)) (fun W=>Ab rfl (Bk W)) rfl fun b6 W7 hM7=>?_
 simp only[nmA]
 refine Av hM7 3 (cs:=(elR X)) rfl rfl rfl rfl Aw rfl (Ay X) rfl rfl fun W8 hM8=>?_
 simp only[nm2,nm3] at hM8
 refine Av hM8 2 (cs:=(elR Y)) rfl rfl rfl rfl Aw rfl (Ay Y) rfl rfl fun W9 hM9=>?_
 simp only[nm2,nm3] at hM9
 refine Av hM9 1 (cs:=(elR Z)) rfl rfl rfl rfl Aw rfl (Ay Z) rfl rfl fun W10 hM10=>?_
 simp only[nm2,nm3] at hM10
 refine Av hM10 0 (cs:=(elR T)) rfl rfl rfl rfl Aw rfl (Ay T) rfl rfl fun W11 hM11=>?_
 simp only[nm2,nm3] at hM11
 refine wpList_nil ?_
 ((iterate 3 go_step);refine Ak 20 HMIX.out (by decide) (by kernel_rfl) (by kernel_rfl) ?_)
 refine Ao hM11 3 (v:=Aa X) rfl rfl rfl rfl Aw rfl rfl ?_;simp only[nmA]
 refine Ao hM11 3 (v:=Aa X) rfl rfl rfl rfl Aw rfl rfl ?_;simp only[nmA]
 refine AX (n:=2) (L:=elR X++elR X) (T:=36) (fun W=>Ax rfl (by simp[Act.eval]) (bs2 X X W)) rfl rfl ?_;simp only[List.nil_append,List.cons_append]
 obtain⟨v1,ev1⟩:=exza (X*X%PN)
 have pv1:v1<PN:=by rw[ev1];exact Nat.mod_lt _ Au
 have Kv1:=Ck X X hX hX
 rw[← ev1] at Kv1
 refine A9 2 22 (v:=Aa v1) rfl rfl (fun _=>rfl) (fun b W=>AR W (enters_of Tryz.func76 rfl rfl) rfl (by simp[Act.eval,Act.put])) (fun b W h=>Kv1 b W h) ?_;simp only[nmA]
 refine Ao hM11 3 (v:=Aa X) rfl rfl rfl rfl Aw rfl rfl ?_;simp only[nmA]
 refine Ao hM11 2 (v:=Aa Y) rfl rfl rfl rfl Aw rfl rfl ?_;simp only[nmA]
 refine AX (n:=2) (L:=elR X++elR Y) (T:=36) (fun W=>Ax rfl (by simp[Act.eval]) (bs2 X Y W)) rfl rfl ?_;simp only[List.nil_append,List.cons_append]
 obtain⟨v2,ev2⟩:=exza (X*Y%PN)
 have pv2:v2<PN:=by rw[ev2];exact Nat.mod_lt _ Au
 have Kv2:=Ck X Y hX hY
 rw[← ev2] at Kv2
 refine A9 6 26 (v:=Aa v2) rfl rfl (fun _=>rfl) (fun b W=>AR W (enters_of Tryz.func76 rfl rfl) rfl (by simp[Act.eval,Act.put])) (fun b W h=>Kv2 b W h) ?_;simp only[nmA]
 refine Ao hM11 2 (v:=Aa Y) rfl rfl rfl rfl Aw rfl rfl ?_;simp only[nmA]
 refine Ao hM11 2 (v:=Aa Y) rfl rfl rfl rfl Aw rfl rfl ?_;simp only[nmA]
 refine AX (n:=2) (L:=elR Y++elR Y) (T:=36) (fun W=>Ax rfl (by simp[Act.eval]) (bs2 Y Y W)) rfl rfl ?_;simp only[List.nil_append,List.cons_append]
 obtain⟨v3,ev3⟩:=exza (Y*Y%PN)
 have pv3:v3<PN:=by rw[ev3];exact Nat.mod_lt _ Au
 have Kv3:=Ck Y Y hY hY
 rw[← ev3] at Kv3
 refine A9 10 30 (v:=Aa v3) rfl rfl (fun _=>rfl) (fun b W=>AR W (enters_of Tryz.func76 rfl rfl) rfl (by simp[Act.eval,Act.put])) (fun b W h=>Kv3 b W h) ?_;simp only[nmA]
 refine Ao hM11 1 (v:=Aa Z) rfl rfl rfl rfl Aw rfl rfl ?_;simp only[nmA]
 refine Ao hM11 1 (v:=Aa Z) rfl rfl rfl rfl Aw rfl rfl ?_;simp only[nmA]
 refine AX (n:=2) (L:=elR Z++elR Z) (T:=36) (fun W=>Ax rfl (by simp[Act.eval]) (bs2 Z Z W)) rfl rfl ?_;simp only[List.nil_append,List.cons_append]
 obtain⟨v4,ev4⟩:=exza (Z*Z%PN)
 have pv4:v4<PN:=by rw[ev4];exact Nat.mod_lt _ Au
 have Kv4:=Ck Z Z hZ hZ
 rw[← ev4] at Kv4
 refine A9 14 34 (v:=Aa v4) rfl rfl (fun _=>rfl) (fun b W=>AR W (enters_of Tryz.func76 rfl rfl) rfl (by simp[Act.eval,Act.put])) (fun b W h=>Kv4 b W h) ?_;simp only[nmA]
 refine Ce (.cells z4 36 (0,0)) rfl rfl (fun A W=>Ab rfl (Bk W)) ?_;simp only[List.nil_append,List.cons_append]
 refine Ce (.cells z4 36 (0,0)) rfl rfl (fun A W=>Ab rfl (Bk W)) ?_;simp only[List.nil_append,List.cons_append]
 refine Ce (.cells z4 36 (0,0)) rfl rfl (fun A W=>Ab rfl (Bk W)) ?_;simp only[List.nil_append,List.cons_append]
 refine Ce (.cells z4 36 (0,0)) rfl rfl (fun A W=>Ab rfl (Bk W)) ?_;simp only[List.nil_append,List.cons_append]
 refine AO fun d os=>?_
 refine Bb (t:=22) rfl fun s2=>?_
 refine Bb (t:=26) rfl fun s6=>?_
 refine Bb (t:=30) rfl fun s10=>?_
 refine Bb (t:=34) rfl fun s14=>?_
 refine Bm (t:=7) rfl fun b7 lb7 gb7=>?_
 refine Bm (t:=8) rfl fun b8 lb8 gb8=>?_
 refine Bm (t:=9) rfl fun b9 lb9 gb9=>?_
 refine Bm (t:=10) rfl fun b10 lb10 gb10=>?_
 refine Az fun hap=>?_
 simp only[nmA] at hap ⊢
 have nb7b8:b7≠b8:=hap.ne 16 17 rfl rfl rfl rfl rfl rfl rfl
 have nb7b9:b7≠b9:=hap.ne 16 18 rfl rfl rfl rfl rfl rfl rfl
 have nb7b10:b7≠b10:=hap.ne 16 19 rfl rfl rfl rfl rfl rfl rfl
 have nb8b9:b8≠b9:=hap.ne 17 18 rfl rfl rfl rfl rfl rfl rfl
 have nb8b10:b8≠b10:=hap.ne 17 19 rfl rfl rfl rfl rfl rfl rfl
 have nb9b10:b9≠b10:=hap.ne 18 19 rfl rfl rfl rfl rfl rfl rfl
 have hM12:=hM11.news4 (below_regrown W11 d os) lb7 gb7 lb8 gb8 lb9 gb9 lb10 gb10 nb7b8 nb7b9 nb7b10 nb8b9 nb8b10 nb9b10
 clear hap lb7 gb7 lb8 gb8 lb9 gb9 lb10 gb10 nb7b8 nb7b9 nb7b10 nb8b9 nb8b10 nb9b10
 generalize grow (redrawn W11 d) os=W12 at hM12 ⊢
 change wpAny _ _ _ _ 4 _ _ _
 refine A7 (n:=20) (by kernel_rfl) rfl hM12 0 (cs:=(elR v1)) rfl rfl rfl rfl Aw rfl (Ay v1) rfl rfl fun W13 hM13=>?_
 simp only[nm2,nm3] at hM13
 refine A7 (n:=21) (by kernel_rfl) rfl hM13 1 (cs:=(elR v2)) rfl rfl rfl rfl Aw rfl (Ay v2) rfl rfl fun W14 hM14=>?_
 simp only[nm2,nm3] at hM14
 refine A7 (n:=22) (by kernel_rfl) rfl hM14 2 (cs:=(elR v3)) rfl rfl rfl rfl Aw rfl (Ay v3) rfl rfl fun W15 hM15=>?_
 simp only[nm2,nm3] at hM15
 refine A7 (n:=23) (by kernel_rfl) rfl hM15 3 (cs:=(elR v4)) rfl rfl rfl rfl Aw rfl (Ay v4) rfl rfl fun W16 hM16=>?_
 simp only[nm2,nm3] at hM16
 refine wpAny_done (by kernel_rfl) ?_ _
 ((iterate 3 go_step);refine wp_region_lit ?_)
 refine AD hM16 2 (v:=Aa v3) rfl rfl rfl rfl Aw rfl ?_
 simp only[nmA]
 refine AD hM16 0 (v:=Aa v1) rfl rfl rfl rfl Aw rfl ?_
 simp only[nmA]
 obtain⟨v5,ev5⟩:=exza ((v3+PN-v1)%PN)
 have pv5:v5<PN:=by rw[ev5];exact Nat.mod_lt _ Au
 have Kv5:=fun W=>Ex v3 v1 W pv3 pv1
 simp only[← ev5] at Kv5
 refine Ah hM16 (args:=#[Aa v3,Aa v1]) (v:=Aa v5) (rcf (enters_of Tryz.func80 rfl rfl)) (Kv5 W16) rfl fun W17 hM17=>?_
 simp only[nmA]
 refine At hM17 (ob:=.cells z4 36 (0,0)) (fun W=>Ab rfl (Bk W)) rfl fun b11 W18 hM18=>?_
 simp only[nmA]
 refine Av hM18 0 (cs:=(elR v5)) rfl rfl rfl rfl Aw rfl (Ay v5) rfl rfl fun W19 hM19=>?_
 simp only[nm2,nm3] at hM19
 refine wpList_nil ?_
 ((iterate 3 go_step);refine Ak 7 HMIX.out (by decide) (by kernel_rfl) (by kernel_rfl) ?_)
 refine Ao hM19 4 (v:=Aa v4) rfl rfl rfl rfl Aw rfl rfl ?_;simp only[nmA]
 refine Ao hM19 4 (v:=Aa v4) rfl rfl rfl rfl Aw rfl rfl ?_;simp only[nmA]
 refine AX (n:=2) (L:=elR v4++elR v4) (T:=36) (fun W=>Ax rfl (by simp[Act.eval]) (bs2 v4 v4 W)) rfl rfl ?_;simp only[List.nil_append,List.cons_append]
 obtain⟨v6,ev6⟩:=exza ((v4+v4)%PN)
 have pv6:v6<PN:=by rw[ev6];exact Nat.mod_lt _ Au
 have Kv6:=Ee v4 v4 pv4 pv4
 rw[← ev6] at Kv6
 refine A9 2 41 (v:=Aa v6) rfl rfl (fun _=>rfl) (fun b W=>AR W (enters_of Tryz.func77 rfl rfl) rfl (by simp[Act.eval,Act.put])) (fun b W h=>Kv6 b W h) ?_;simp only[nmA]
 refine Ao hM19 0 (v:=Aa v5) rfl rfl rfl rfl Aw rfl rfl ?_;simp only[nmA]
 obtain⟨v7,ev7⟩:=exza ((v6+PN-v5)%PN)
 have pv7:v7<PN:=by rw[ev7];exact Nat.mod_lt _ Au
 have Kv7:=fun W=>Ex v6 v5 W pv6 pv5
 simp only[← ev7] at Kv7
 refine Am (args:=#[Aa v6,Aa v5]) (v:=Aa v7) (rcf (enters_of Tryz.func80 rfl rfl)) (fun W _=>Kv7 W) rfl rfl ?_;simp only[nmA]
 refine Ce (.cells z4 36 (0,0)) rfl rfl (fun A W=>Ab rfl (Bk W)) ?_;simp only[List.nil_append,List.cons_append]
 refine AO fun d os=>?_
 refine Bb (t:=41) rfl fun s2=>?_
 refine Bm (t:=12) rfl fun b12 lb12 gb12=>?_
 refine Az fun hap=>?_
 simp only[nmA] at hap ⊢
 have hM20:=hM19.news1 (below_regrown W19 d os) lb12 gb12 
 clear hap lb12 gb12
 generalize grow (redrawn W19 d) os=W20 at hM20 ⊢
 change wpAny _ _ _ _ 1 _ _ _
 refine A7 (n:=7) (by kernel_rfl) rfl hM20 0 (cs:=(elR v7)) rfl rfl rfl rfl Aw rfl (Ay v7) rfl rfl fun W21 hM21=>?_
 simp only[nm2,nm3] at hM21
 refine wpAny_done (by kernel_rfl) ?_ _
 ((iterate 3 go_step);refine Ak 11 HMIX.out (by decide) (by kernel_rfl) (by kernel_rfl) ?_)
 refine Ao hM21 3 (v:=Aa v2) rfl rfl rfl rfl Aw rfl rfl ?_;simp only[nmA]
 refine Ao hM21 3 (v:=Aa v2) rfl rfl rfl rfl Aw rfl rfl ?_;simp only[nmA]
 refine AX (n:=2) (L:=elR v2++elR v2) (T:=36) (fun W=>Ax rfl (by simp[Act.eval]) (bs2 v2 v2 W)) rfl rfl ?_;simp only[List.nil_append,List.cons_append]
 obtain⟨v8,ev8⟩:=exza ((v2+v2)%PN)
 have pv8:v8<PN:=by rw[ev8];exact Nat.mod_lt _ Au
 have Kv8:=Ee v2 v2 pv2 pv2
 rw[← ev8] at Kv8
 refine A9 2 47 (v:=Aa v8) rfl rfl (fun _=>rfl) (fun b W=>AR W (enters_of Tryz.func77 rfl rfl) rfl (by simp[Act.eval,Act.put])) (fun b W h=>Kv8 b W h) ?_;simp only[nmA]
 refine Ao hM21 0 (v:=Aa v7) rfl rfl rfl rfl Aw rfl rfl ?_;simp only[nmA]
 refine Ao hM21 1 (v:=Aa v5) rfl rfl rfl rfl Aw rfl rfl ?_;simp only[nmA]
 refine Ao hM21 4 (v:=Aa v3) rfl rfl rfl rfl Aw rfl rfl ?_;simp only[nmA]
 refine Ao hM21 2 (v:=Aa v1) rfl rfl rfl rfl Aw rfl rfl ?_;simp only[nmA]
 refine AX (n:=2) (L:=elR v3++elR v1) (T:=36) (fun W=>Ax rfl (by simp[Act.eval]) (bs2 v3 v1 W)) rfl rfl ?_;simp only[List.nil_append,List.cons_append]
 obtain⟨v9,ev9⟩:=exza ((v3+v1)%PN)
 have pv9:v9<PN:=by rw[ev9];exact Nat.mod_lt _ Au
 have Kv9:=Ee v3 v1 pv3 pv1
 rw[← ev9] at Kv9
 refine A9 8 53 (v:=Aa v9) rfl rfl (fun _=>rfl) (fun b W=>AR W (enters_of Tryz.func77 rfl rfl) rfl (by simp[Act.eval,Act.put])) (fun b W h=>Kv9 b W h) ?_;simp only[nmA]
 obtain⟨v10,ev10⟩:=exza (v8*v7%PN)
 have pv10:v10<PN:=by rw[ev10];exact Nat.mod_lt _ Au
 obtain⟨v11,ev11⟩:=exza (v5*v9%PN)
 have pv11:v11<PN:=by rw[ev11];exact Nat.mod_lt _ Au
 obtain⟨v12,ev12⟩:=exza (v7*v5%PN)
 have pv12:v12<PN:=by rw[ev12];exact Nat.mod_lt _ Au
 obtain⟨v13,ev13⟩:=exza (v8*v9%PN)
 have pv13:v13<PN:=by rw[ev13];exact Nat.mod_lt _ Au
 have KQ:=fun W=>Rv v8 v7 v5 v9 W pv8 pv7 pv5 pv9
 simp only[← ev10,← ev11,← ev12,← ev13] at KQ
 refine Am (args:=#[Aa v8,Aa v7,Aa v5,Aa v9]) (v:=ptV v10 v11 v12 v13) (rcf (enters_of Tryz.func195 rfl rfl)) (fun W _=>KQ W) rfl rfl ?_;simp only[nmA]
 refine AO fun d os=>?_
 refine Bb (t:=47) rfl fun s2=>?_
 refine Bb (t:=53) rfl fun s8=>?_
 refine Az fun hap=>?_
 simp only[nmA] at hap ⊢
 have hM22:=hM21.calls (below_regrown W21 d os)
 clear hap 
 generalize grow (redrawn W21 d) os=W22 at hM22 ⊢
 change wpAny _ _ _ _ 1 _ _ _
 refine A7 (n:=11) (by kernel_rfl) rfl hM22 10 (cs:=((ptL v10 v11 v12 v13).toArray)) rfl rfl rfl rfl AS rfl (G6 v10 v11 v12 v13) rfl rfl fun W23 hM23=>?_
 simp only[nm2,nm3] at hM23
 refine wpAny_done (by kernel_rfl) ?_ _
 ((iterate 3 go_step);refine bodyPost_ret (v:=ptV v10 v11 v12 v13) (Ap Tryz.results161 rfl (hM23.load 10 rfl AS)) rfl ⟨?_,hM23.below⟩)
 exact by rw[ev13,ev12,ev11,ev10,ev9,ev8,ev7,ev6,ev5,ev4,ev3,ev2,ev1]
def dM (D X Y Z T U V R S:Nat):Nat:=(((((X+Y)%PN)*((U+V)%PN)%PN)+PN-(((X*U%PN)+(Y*V%PN))%PN))%PN)*(((Z*R%PN)+PN-(D*T%PN*S%PN))%PN)%PN
def bW (D X Y Z T U V R S:Nat):Nat:=(((Z*R%PN)+(D*T%PN*S%PN))%PN)*(((Y*V%PN)+(X*U%PN))%PN)%PN
def bj (D Z T R S:Nat):Nat:=(((Z*R%PN)+PN-(D*T%PN*S%PN))%PN)*(((Z*R%PN)+(D*T%PN*S%PN))%PN)%PN
def cY (X Y U V:Nat):Nat:=(((((X+Y)%PN)*((U+V)%PN)%PN)+PN-(((X*U%PN)+(Y*V%PN))%PN))%PN)*(((Y*V%PN)+(X*U%PN))%PN)%PN
theorem Ov (D X Y Z T U V R S:Nat) (hD:D<PN) (hX:X<PN) (hY:Y<PN) (hZ:Z<PN) (hT:T<PN) (hU:U<PN) (hV:V<PN) (hR:R<PN) (hS:S<PN) (hzZ:0<Z) (hzR:0<R) (w:World):Calls Tryz.prog 157 #[Aa D,ptV X Y Z T,ptV U V R S] w fun E w'=>E=.returned (ptV (dM D X Y Z T U V R S) (bW D X Y Z T U V R S) (bj D Z T R S) (cY X Y U V))∧Below w.heap.size w w':=by
 unfold dM bW bj cY
 have HMIX:=Lh (show Tryz.prog.follows .mixedOrders=true by kernel_rfl)
 go_enter Tryz.func157,Tryz.ntmps157
 have hM0:=Mem.start w
 (go_step;go_step;refine wp_region_lit ?_)
 refine At hM0 (ob:=.cells (elR D) 187 (0,0)) (fun W=>AK rfl rfl (iW D W)) rfl fun b1 W1 hM1=>?_
 simp only[nmA]
 refine At hM1 (ob:=.cells ((ptL X Y Z T).toArray) 39 (0,0)) (fun W=>AK rfl rfl (L8 X Y Z T W)) rfl fun b2 W2 hM2=>?_
 simp only[nmA]
 refine At hM2 (ob:=.cells ((ptL U V R S).toArray) 39 (0,0)) (fun W=>AK rfl rfl (L8 U V R S W)) rfl fun b3 W3 hM3=>?_
 simp only[nmA]
 refine At hM3 (ob:=.cells z16 39 (0,0)) (fun W=>Ab rfl (Ew W)) rfl fun b4 W4 hM4=>?_
 simp only[nmA]
 refine wpList_nil ?_
 ((iterate 3 go_step);refine wp_region_lit ?_)
 refine AD hM4 2 (v:=ptV X Y Z T) rfl rfl rfl rfl AS rfl ?_
 simp only[nmA]
 refine Ah hM4 (args:=#[ptV X Y Z T]) (v:=.tuple #[Aa X,Aa Y,Aa Z,Aa T]) (rcf (enters_of Tryz.func82 rfl rfl)) (Fr X Y Z T hX hY hZ hT hzZ W4) rfl fun W5 hM5=>?_
 simp only[nmA]
 refine Ad (.tuple #[Aa X,Aa Y,Aa Z,Aa T]) ?_
 simp only[nmA]
 refine Ad (Aa X) ?_
 simp only[nmA]
 refine Ad (Aa Y) ?_
 simp only[nmA]
 refine Ad (Aa Z) ?_
 simp only[nmA]
 refine Ad (Aa T) ?_
 simp only[nmA]
 refine At hM5 (ob:=.cells z4 36 (0,0)) (fun W=>Ab rfl (Bk W)) rfl fun b5 W6 hM6=>?_
 simp only[nmA]
 refine At hM6 (ob:=.cells z4 36 (0,0)) (fun W=>Ab rfl (Bk W)) rfl fun b6 W7 hM7=>?_
 simp only[nmA]
 refine At hM7 (ob:=.cells z4 36 (0,0)) (fun W=>Ab rfl (Bk W)) rfl fun b7 W8 hM8=>?_
 simp only[nmA]
 refine At hM8 (ob:=.cells z4 36 (0,0)) (fun W=>Ab rfl (Bk W)) rfl fun b8 W9 hM9=>?_
 simp only[nmA]
 refine Av hM9 3 (cs:=(elR X)) rfl rfl rfl rfl Aw rfl (Ay X) rfl rfl fun W10 hM10=>?_
 simp only[nm2,nm3] at hM10
 refine Av hM10 2 (cs:=(elR Y)) rfl rfl rfl rfl Aw rfl (Ay Y) rfl rfl fun W11 hM11=>?_
 simp only[nm2,nm3] at hM11
 refine Av hM11 1 (cs:=(elR Z)) rfl rfl rfl rfl Aw rfl (Ay Z) rfl rfl fun W12 hM12=>?_
 simp only[nm2,nm3] at hM12
 refine Av hM12 0 (cs:=(elR T)) rfl rfl rfl rfl Aw rfl (Ay T) rfl rfl fun W13 hM13=>?_
 simp only[nm2,nm3] at hM13
 refine wpList_nil ?_
 ((iterate 3 go_step);refine wp_region_lit ?_)
 refine AD hM13 5 (v:=ptV U V R S) rfl rfl rfl rfl AS rfl ?_
 simp only[nmA]
 refine Ah hM13 (args:=#[ptV U V R S]) (v:=.tuple #[Aa U,Aa V,Aa R,Aa S]) (rcf (enters_of Tryz.func82 rfl rfl)) (Fr U V R S hU hV hR hS hzR W13) rfl fun W14 hM14=>?_
 simp only[nmA]
 refine Ad (.tuple #[Aa U,Aa V,Aa R,Aa S]) ?_
 simp only[nmA]
 refine Ad (Aa U) ?_
 simp only[nmA]
 refine Ad (Aa V) ?_
 simp only[nmA]
 refine Ad (Aa R) ?_
 simp only[nmA]
 refine Ad (Aa S) ?_
 simp only[nmA]
 refine At hM14 (ob:=.cells z4 36 (0,0)) (fun W=>Ab rfl (Bk W)) rfl fun b9 W15 hM15=>?_
 simp only[nmA]
 refine At hM15 (ob:=.cells z4 36 (0,0)) (fun W=>Ab rfl (Bk W)) rfl fun b10 W16 hM16=>?_
 simp only[nmA]
 refine At hM16 (ob:=.cells z4 36 (0,0)) (fun W=>Ab rfl (Bk W)) rfl fun b11 W17 hM17=>?_
 simp only[nmA]
 refine At hM17 (ob:=.cells z4 36 (0,0)) (fun W=>Ab rfl (Bk W)) rfl fun b12 W18 hM18=>?_
 simp only[nmA]
 refine Av hM18 3 (cs:=(elR U)) rfl rfl rfl rfl Aw rfl (Ay U) rfl rfl fun W19 hM19=>?_
 simp only[nm2,nm3] at hM19
 refine Av hM19 2 (cs:=(elR V)) rfl rfl rfl rfl Aw rfl (Ay V) rfl rfl fun W20 hM20=>?_
 simp only[nm2,nm3] at hM20
 refine Av hM20 1 (cs:=(elR R)) rfl rfl rfl rfl Aw rfl (Ay R) rfl rfl fun W21 hM21=>?_
 simp only[nm2,nm3] at hM21
 refine Av hM21 0 (cs:=(elR S)) rfl rfl rfl rfl Aw rfl (Ay S) rfl rfl fun W22 hM22=>?_
 simp only[nm2,nm3] at hM22
 refine wpList_nil ?_
 ((iterate 3 go_step);refine Ak 15 HMIX.out (by decide) (by kernel_rfl) (by kernel_rfl) ?_)
 refine Ao hM22 7 (v:=Aa X) rfl rfl rfl rfl Aw rfl rfl ?_;simp only[nmA]
 refine Ao hM22 3 (v:=Aa U) rfl rfl rfl rfl Aw rfl rfl ?_;simp only[nmA]
 refine AX (n:=2) (L:=elR X++elR U) (T:=36) (fun W=>Ax rfl (by simp[Act.eval]) (bs2 X U W)) rfl rfl ?_;simp only[List.nil_append,List.cons_append]
 obtain⟨v1,ev1⟩:=exza (X*U%PN)
 have pv1:v1<PN:=by rw[ev1];exact Nat.mod_lt _ Au
 have Kv1:=Ck X U hX hU
 rw[← ev1] at Kv1
 refine A9 2 36 (v:=Aa v1) rfl rfl (fun _=>rfl) (fun b W=>AR W (enters_of Tryz.func76 rfl rfl) rfl (by simp[Act.eval,Act.put])) (fun b W h=>Kv1 b W h) ?_;simp only[nmA]
 refine Ao hM22 6 (v:=Aa Y) rfl rfl rfl rfl Aw rfl rfl ?_;simp only[nmA]
 refine Ao hM22 2 (v:=Aa V) rfl rfl rfl rfl Aw rfl rfl ?_;simp only[nmA]
 refine AX (n:=2) (L:=elR Y++elR V) (T:=36) (fun W=>Ax rfl (by simp[Act.eval]) (bs2 Y V W)) rfl rfl ?_;simp only[List.nil_append,List.cons_append]
 obtain⟨v2,ev2⟩:=exza (Y*V%PN)
 have pv2:v2<PN:=by rw[ev2];exact Nat.mod_lt _ Au
 have Kv2:=Ck Y V hY hV
 rw[← ev2] at Kv2
 refine A9 6 40 (v:=Aa v2) rfl rfl (fun _=>rfl) (fun b W=>AR W (enters_of Tryz.func76 rfl rfl) rfl (by simp[Act.eval,Act.put])) (fun b W h=>Kv2 b W h) ?_;simp only[nmA]
 refine Ao hM22 5 (v:=Aa Z) rfl rfl rfl rfl Aw rfl rfl ?_;simp only[nmA]
 refine Ao hM22 1 (v:=Aa R) rfl rfl rfl rfl Aw rfl rfl ?_;simp only[nmA]
 refine AX (n:=2) (L:=elR Z++elR R) (T:=36) (fun W=>Ax rfl (by simp[Act.eval]) (bs2 Z R W)) rfl rfl ?_;simp only[List.nil_append,List.cons_append]
 obtain⟨v3,ev3⟩:=exza (Z*R%PN)
 have pv3:v3<PN:=by rw[ev3];exact Nat.mod_lt _ Au
 have Kv3:=Ck Z R hZ hR
 rw[← ev3] at Kv3
 refine A9 10 44 (v:=Aa v3) rfl rfl (fun _=>rfl) (fun b W=>AR W (enters_of Tryz.func76 rfl rfl) rfl (by simp[Act.eval,Act.put])) (fun b W h=>Kv3 b W h) ?_;simp only[nmA]
 refine Ce (.cells z4 36 (0,0)) rfl rfl (fun A W=>Ab rfl (Bk W)) ?_;simp only[List.nil_append,List.cons_append]
 refine Ce (.cells z4 36 (0,0)) rfl rfl (fun A W=>Ab rfl (Bk W)) ?_;simp only[List.nil_append,List.cons_append]
 refine Ce (.cells z4 36 (0,0)) rfl rfl (fun A W=>Ab rfl (Bk W)) ?_;simp only[List.nil_append,List.cons_append]
 refine AO fun d os=>?_
 refine Bb (t:=36) rfl fun s2=>?_
 refine Bb (t:=40) rfl fun s6=>?_
 refine Bb (t:=44) rfl fun s10=>?_
 refine Bm (t:=15) rfl fun b13 lb13 gb13=>?_
 refine Bm (t:=16) rfl fun b14 lb14 gb14=>?_
 refine Bm (t:=17) rfl fun b15 lb15 gb15=>?_
 refine Az fun hap=>?_
 simp only[nmA] at hap ⊢
 have nb13b14:b13≠b14:=hap.ne 12 13 rfl rfl rfl rfl rfl rfl rfl
 have nb13b15:b13≠b15:=hap.ne 12 14 rfl rfl rfl rfl rfl rfl rfl
 have nb14b15:b14≠b15:=hap.ne 13 14 rfl rfl rfl rfl rfl rfl rfl
 have hM23:=hM22.news3 (below_regrown W22 d os) lb13 gb13 lb14 gb14 lb15 gb15 nb13b14 nb13b15 nb14b15
 clear hap lb13 gb13 lb14 gb14 lb15 gb15 nb13b14 nb13b15 nb14b15
 generalize grow (redrawn W22 d) os=W23 at hM23 ⊢
 change wpAny _ _ _ _ 3 _ _ _
 refine A7 (n:=15) (by kernel_rfl) rfl hM23 0 (cs:=(elR v1)) rfl rfl rfl rfl Aw rfl (Ay v1) rfl rfl fun W24 hM24=>?_
 simp only[nm2,nm3] at hM24
 refine A7 (n:=16) (by kernel_rfl) rfl hM24 1 (cs:=(elR v2)) rfl rfl rfl rfl Aw rfl (Ay v2) rfl rfl fun W25 hM25=>?_
 simp only[nm2,nm3] at hM25
 refine A7 (n:=17) (by kernel_rfl) rfl hM25 2 (cs:=(elR v3)) rfl rfl rfl rfl Aw rfl (Ay v3) rfl rfl fun W26 hM26=>?_
 simp only[nm2,nm3] at hM26
 refine wpAny_done (by kernel_rfl) ?_ _
 ((iterate 3 go_step);refine Ak 11 HMIX.out (by decide) (by kernel_rfl) (by kernel_rfl) ?_)
 refine Ao hM26 10 (v:=Aa X) rfl rfl rfl rfl Aw rfl rfl ?_;simp only[nmA]
 refine Ao hM26 9 (v:=Aa Y) rfl rfl rfl rfl Aw rfl rfl ?_;simp only[nmA]
 refine AX (n:=2) (L:=elR X++elR Y) (T:=36) (fun W=>Ax rfl (by simp[Act.eval]) (bs2 X Y W)) rfl rfl ?_;simp only[List.nil_append,List.cons_append]
 obtain⟨v4,ev4⟩:=exza ((X+Y)%PN)
 have pv4:v4<PN:=by rw[ev4];exact Nat.mod_lt _ Au
 have Kv4:=Ee X Y hX hY
 rw[← ev4] at Kv4
 refine A9 2 48 (v:=Aa v4) rfl rfl (fun _=>rfl) (fun b W=>AR W (enters_of Tryz.func77 rfl rfl) rfl (by simp[Act.eval,Act.put])) (fun b W h=>Kv4 b W h) ?_;simp only[nmA]
 refine Ao hM26 6 (v:=Aa U) rfl rfl rfl rfl Aw rfl rfl ?_;simp only[nmA]
 refine Ao hM26 5 (v:=Aa V) rfl rfl rfl rfl Aw rfl rfl ?_;simp only[nmA]
 refine AX (n:=2) (L:=elR U++elR V) (T:=36) (fun W=>Ax rfl (by simp[Act.eval]) (bs2 U V W)) rfl rfl ?_;simp only[List.nil_append,List.cons_append]
 obtain⟨v5,ev5⟩:=exza ((U+V)%PN)
 have pv5:v5<PN:=by rw[ev5];exact Nat.mod_lt _ Au
 have Kv5:=Ee U V hU hV
 rw[← ev5] at Kv5
 refine A9 6 52 (v:=Aa v5) rfl rfl (fun _=>rfl) (fun b W=>AR W (enters_of Tryz.func77 rfl rfl) rfl (by simp[Act.eval,Act.put])) (fun b W h=>Kv5 b W h) ?_;simp only[nmA]
 refine AX (n:=2) (L:=elR v4++elR v5) (T:=36) (fun W=>Ax rfl (by simp[Act.eval]) (bs2 v4 v5 W)) rfl rfl ?_;simp only[List.nil_append,List.cons_append]
 obtain⟨v6,ev6⟩:=exza (v4*v5%PN)
 have pv6:v6<PN:=by rw[ev6];exact Nat.mod_lt _ Au
 have Kv6:=Ck v4 v5 pv4 pv5
 rw[← ev6] at Kv6
 refine A9 8 54 (v:=Aa v6) rfl rfl (fun _=>rfl) (fun b W=>AR W (enters_of Tryz.func76 rfl rfl) rfl (by simp[Act.eval,Act.put])) (fun b W h=>Kv6 b W h) ?_;simp only[nmA]
 refine Ce (.cells z4 36 (0,0)) rfl rfl (fun A W=>Ab rfl (Bk W)) ?_;simp only[List.nil_append,List.cons_append]
 refine AO fun d os=>?_
 refine Bb (t:=48) rfl fun s2=>?_
 refine Bb (t:=52) rfl fun s6=>?_
 refine Bb (t:=54) rfl fun s8=>?_
 refine Bm (t:=18) rfl fun b16 lb16 gb16=>?_
 refine Az fun hap=>?_
 simp only[nmA] at hap ⊢
 have hM27:=hM26.news1 (below_regrown W26 d os) lb16 gb16 
 clear hap lb16 gb16
 generalize grow (redrawn W26 d) os=W27 at hM27 ⊢
 change wpAny _ _ _ _ 1 _ _ _
 refine A7 (n:=11) (by kernel_rfl) rfl hM27 0 (cs:=(elR v6)) rfl rfl rfl rfl Aw rfl (Ay v6) rfl rfl fun W28 hM28=>?_
 simp only[nm2,nm3] at hM28
 refine wpAny_done (by kernel_rfl) ?_ _
 ((iterate 3 go_step);refine wp_region_lit ?_)
 refine Ac (v:=.pointer (some ⟨b1,0,none⟩)) (fun W=>AJ rfl rfl (ge b1 W)) rfl ?_
 simp only[nmA]
 refine Hd hM28 15 (v:=Aa D) (sub:=elR D) rfl rfl rfl rfl rfl Aw rfl ?_
 simp only[nmA]
 refine AD hM28 8 (v:=Aa T) rfl rfl rfl rfl Aw rfl ?_
 simp only[nmA]
 refine AD hM28 4 (v:=Aa S) rfl rfl rfl rfl Aw rfl ?_
 simp only[nmA]
 refine FN hM28 (f:=fun b=>.slice (some ⟨b,0,none⟩) 3 3) (ob:=.cells (elR D++elR T++elR S) 36 (0,0)) (fun W=>Ax rfl (by simp[Act.eval]) (bs3 D T S W)) rfl fun b17 W29 hM29=>?_
 simp only[nmA]
 obtain⟨v7,ev7⟩:=exza (D*T%PN*S%PN)
 have pv7:v7<PN:=by rw[ev7];exact Nat.mod_lt _ Au
 have Kv7:=Nz D T S hD hT hS
 rw[← ev7] at Kv7
 refine Ah hM29 (args:=#[.slice (some ⟨b17,0,none⟩) 3 3]) (v:=Aa v7) (rcf (enters_of Tryz.func76 rfl rfl)) (Kv7 b17 W29 (hM29.get 0 rfl)) rfl fun W30 hM30=>?_
 simp only[nmA]
 refine At hM30 (ob:=.cells z4 36 (0,0)) (fun W=>Ab rfl (Bk W)) rfl fun b18 W31 hM31=>?_
 simp only[nmA]
 refine Av hM31 0 (cs:=(elR v7)) rfl rfl rfl rfl Aw rfl (Ay v7) rfl rfl fun W32 hM32=>?_
 simp only[nm2,nm3] at hM32
 refine wpList_nil ?_
 ((iterate 3 go_step);refine Ak 18 HMIX.out (by decide) (by kernel_rfl) (by kernel_rfl) ?_)
 refine Ao hM32 2 (v:=Aa v6) rfl rfl rfl rfl Aw rfl rfl ?_;simp only[nmA]
 refine Ao hM32 3 (v:=Aa v1) rfl rfl rfl rfl Aw rfl rfl ?_;simp only[nmA]
 refine Ao hM32 4 (v:=Aa v2) rfl rfl rfl rfl Aw rfl rfl ?_;simp only[nmA]
 refine AX (n:=2) (L:=elR v1++elR v2) (T:=36) (fun W=>Ax rfl (by simp[Act.eval]) (bs2 v1 v2 W)) rfl rfl ?_;simp only[List.nil_append,List.cons_append]
 obtain⟨v8,ev8⟩:=exza ((v1+v2)%PN)
 have pv8:v8<PN:=by rw[ev8];exact Nat.mod_lt _ Au
 have Kv8:=Ee v1 v2 pv1 pv2
 rw[← ev8] at Kv8
 refine A9 3 65 (v:=Aa v8) rfl rfl (fun _=>rfl) (fun b W=>AR W (enters_of Tryz.func77 rfl rfl) rfl (by simp[Act.eval,Act.put])) (fun b W h=>Kv8 b W h) ?_;simp only[nmA]
 obtain⟨v9,ev9⟩:=exza ((v6+PN-v8)%PN)
 have pv9:v9<PN:=by rw[ev9];exact Nat.mod_lt _ Au
 have Kv9:=fun W=>Ex v6 v8 W pv6 pv8
 simp only[← ev9] at Kv9
 refine Am (args:=#[Aa v6,Aa v8]) (v:=Aa v9) (rcf (enters_of Tryz.func80 rfl rfl)) (fun W _=>Kv9 W) rfl rfl ?_;simp only[nmA]
 refine Ao hM32 5 (v:=Aa v3) rfl rfl rfl rfl Aw rfl rfl ?_;simp only[nmA]
 refine Ao hM32 0 (v:=Aa v7) rfl rfl rfl rfl Aw rfl rfl ?_;simp only[nmA]
 obtain⟨v10,ev10⟩:=exza ((v3+PN-v7)%PN)
 have pv10:v10<PN:=by rw[ev10];exact Nat.mod_lt _ Au
 have Kv10:=fun W=>Ex v3 v7 W pv3 pv7
 simp only[← ev10] at Kv10
 refine Am (args:=#[Aa v3,Aa v7]) (v:=Aa v10) (rcf (enters_of Tryz.func80 rfl rfl)) (fun W _=>Kv10 W) rfl rfl ?_;simp only[nmA]
 refine Ao hM32 5 (v:=Aa v3) rfl rfl rfl rfl Aw rfl rfl ?_;simp only[nmA]
 refine Ao hM32 0 (v:=Aa v7) rfl rfl rfl rfl Aw rfl rfl ?_;simp only[nmA]
 refine AX (n:=2) (L:=elR v3++elR v7) (T:=36) (fun W=>Ax rfl (by simp[Act.eval]) (bs2 v3 v7 W)) rfl rfl ?_;simp only[List.nil_append,List.cons_append]
 obtain⟨v11,ev11⟩:=exza ((v3+v7)%PN)
 have pv11:v11<PN:=by rw[ev11];exact Nat.mod_lt _ Au
 have Kv11:=Ee v3 v7 pv3 pv7
 rw[← ev11] at Kv11
 refine A9 11 73 (v:=Aa v11) rfl rfl (fun _=>rfl) (fun b W=>AR W (enters_of Tryz.func77 rfl rfl) rfl (by simp[Act.eval,Act.put])) (fun b W h=>Kv11 b W h) ?_;simp only[nmA]
 refine Ao hM32 4 (v:=Aa v2) rfl rfl rfl rfl Aw rfl rfl ?_;simp only[nmA]
 refine Ao hM32 3 (v:=Aa v1) rfl rfl rfl rfl Aw rfl rfl ?_;simp only[nmA]
 refine AX (n:=2) (L:=elR v2++elR v1) (T:=36) (fun W=>Ax rfl (by simp[Act.eval]) (bs2 v2 v1 W)) rfl rfl ?_;simp only[List.nil_append,List.cons_append]
 obtain⟨v12,ev12⟩:=exza ((v2+v1)%PN)
 have pv12:v12<PN:=by rw[ev12];exact Nat.mod_lt _ Au
 have Kv12:=Ee v2 v1 pv2 pv1
 rw[← ev12] at Kv12
 refine A9 15 77 (v:=Aa v12) rfl rfl (fun _=>rfl) (fun b W=>AR W (enters_of Tryz.func77 rfl rfl) rfl (by simp[Act.eval,Act.put])) (fun b W h=>Kv12 b W h) ?_;simp only[nmA]
 obtain⟨v13,ev13⟩:=exza (v9*v10%PN)
 have pv13:v13<PN:=by rw[ev13];exact Nat.mod_lt _ Au
 obtain⟨v14,ev14⟩:=exza (v11*v12%PN)
 have pv14:v14<PN:=by rw[ev14];exact Nat.mod_lt _ Au
 obtain⟨v15,ev15⟩:=exza (v10*v11%PN)
 have pv15:v15<PN:=by rw[ev15];exact Nat.mod_lt _ Au
 obtain⟨v16,ev16⟩:=exza (v9*v12%PN)
 have pv16:v16<PN:=by rw[ev16];exact Nat.mod_lt _ Au
 have KQ:=fun W=>Rv v9 v10 v11 v12 W pv9 pv10 pv11 pv12
 simp only[← ev13,← ev14,← ev15,← ev16] at KQ
 refine Am (args:=#[Aa v9,Aa v10,Aa v11,Aa v12]) (v:=ptV v13 v14 v15 v16) (rcf (enters_of Tryz.func195 rfl rfl)) (fun W _=>KQ W) rfl rfl ?_;simp only[nmA]
 refine AO fun d os=>?_
 refine Bb (t:=65) rfl fun s3=>?_
 refine Bb (t:=73) rfl fun s11=>?_
 refine Bb (t:=77) rfl fun s15=>?_
 refine Az fun hap=>?_
 simp only[nmA] at hap ⊢
 have hM33:=hM32.calls (below_regrown W32 d os)
 clear hap 
 generalize grow (redrawn W32 d) os=W33 at hM33 ⊢
 change wpAny _ _ _ _ 1 _ _ _
 refine A7 (n:=18) (by kernel_rfl) rfl hM33 14 (cs:=((ptL v13 v14 v15 v16).toArray)) rfl rfl rfl rfl AS rfl (G6 v13 v14 v15 v16) rfl rfl fun W34 hM34=>?_
 simp only[nm2,nm3] at hM34
 refine wpAny_done (by kernel_rfl) ?_ _
 ((iterate 3 go_step);refine bodyPost_ret (v:=ptV v13 v14 v15 v16) (Ap Tryz.results157 rfl (hM34.load 14 rfl AS)) rfl ⟨?_,hM34.below⟩)
 exact by rw[ev16,ev15,ev14,ev13,ev12,ev11,ev10,ev9,ev8,ev7,ev6,ev5,ev4,ev3,ev2,ev1]
def Ru (X Y:Nat):Bool:=decide (121666*((Y*Y%PN+PN-X*X%PN)%PN)%PN=(121666+PN-121665*(X*X%PN)%PN*(Y*Y%PN)%PN)%PN)
def TJ (X Y:Nat):Value:=bif Ru X Y then .tuple #[ptV X Y 1 (X*Y%PN),.int .i64 0] else .tuple #[ptV 0 1 1 0,.int .i64 22]
theorem Zu (X Y:Nat) (hX:X<PN) (hY:Y<PN) (w:World):Calls Tryz.prog 33 #[Aa X,Aa Y] w fun E w'=>E=.returned (TJ X Y)∧Below w.heap.size w w':=by
 have HMIX:=Lh (show Tryz.prog.follows .mixedOrders=true by kernel_rfl)
 go_enter Tryz.func33,Tryz.ntmps33
 have hM0:=Mem.start w
 (go_step;go_step;refine wp_region_lit ?_)
 refine At hM0 (ob:=.cells (elR X) 36 (0,0)) (fun W=>AK rfl rfl (Ro X W)) rfl fun b1 W1 hM1=>?_
 simp only[nmA]
 refine At hM1 (ob:=.cells (elR Y) 36 (0,0)) (fun W=>AK rfl rfl (Ro Y W)) rfl fun b2 W2 hM2=>?_
 simp only[nmA]
 refine At hM2 (ob:=.cells z16 39 (0,0)) (fun W=>Ab rfl (Ew W)) rfl fun b3 W3 hM3=>?_
 simp only[nmA]
 refine Ad (.int .i64 0) ?_
 simp only[nmA]
 refine wpList_nil ?_
 ((iterate 3 go_step);refine Ak 10 HMIX.out (by decide) (by kernel_rfl) (by kernel_rfl) ?_)
 refine Ao hM3 2 (v:=Aa X) rfl rfl rfl rfl Aw rfl rfl ?_;simp only[nmA]
 refine Ao hM3 2 (v:=Aa X) rfl rfl rfl rfl Aw rfl rfl ?_;simp only[nmA]
 refine AX (n:=2) (L:=elR X++elR X) (T:=36) (fun W=>Ax rfl (by simp[Act.eval]) (bs2 X X W)) rfl rfl ?_;simp only[List.nil_append,List.cons_append]
 obtain⟨v1,ev1⟩:=exza (X*X%PN)
 have pv1:v1<PN:=by rw[ev1];exact Nat.mod_lt _ Au
 have Kv1:=Ck X X hX hX
 rw[← ev1] at Kv1
 refine A9 2 12 (v:=Aa v1) rfl rfl (fun _=>rfl) (fun b W=>AR W (enters_of Tryz.func76 rfl rfl) rfl (by simp[Act.eval,Act.put])) (fun b W h=>Kv1 b W h) ?_;simp only[nmA]
 refine Ao hM3 1 (v:=Aa Y) rfl rfl rfl rfl Aw rfl rfl ?_;simp only[nmA]
 refine Ao hM3 1 (v:=Aa Y) rfl rfl rfl rfl Aw rfl rfl ?_;simp only[nmA]
 refine AX (n:=2) (L:=elR Y++elR Y) (T:=36) (fun W=>Ax rfl (by simp[Act.eval]) (bs2 Y Y W)) rfl rfl ?_;simp only[List.nil_append,List.cons_append]
 obtain⟨v2,ev2⟩:=exza (Y*Y%PN)
 have pv2:v2<PN:=by rw[ev2];exact Nat.mod_lt _ Au
 have Kv2:=Ck Y Y hY hY
 rw[← ev2] at Kv2
 refine A9 6 16 (v:=Aa v2) rfl rfl (fun _=>rfl) (fun b W=>AR W (enters_of Tryz.func76 rfl rfl) rfl (by simp[Act.eval,Act.put])) (fun b W h=>Kv2 b W h) ?_;simp only[nmA]
 refine Ce (.cells z4 36 (0,0)) rfl rfl (fun A W=>Ab rfl (Bk W)) ?_;simp only[List.nil_append,List.cons_append]
 refine Ce (.cells z4 36 (0,0)) rfl rfl (fun A W=>Ab rfl (Bk W)) ?_;simp only[List.nil_append,List.cons_append]
 refine AO fun d os=>?_
 refine Bb (t:=12) rfl fun s2=>?_
 refine Bb (t:=16) rfl fun s6=>?_
 refine Bm (t:=6) rfl fun b4 lb4 gb4=>?_
 refine Bm (t:=7) rfl fun b5 lb5 gb5=>?_
 refine Az fun hap=>?_
 simp only[nmA] at hap ⊢
 have nb4b5:b4≠b5:=hap.ne 8 9 rfl rfl rfl rfl rfl rfl rfl
 have hM4:=hM3.news2 (below_regrown W3 d os) lb4 gb4 lb5 gb5 nb4b5
 clear hap lb4 gb4 lb5 gb5 nb4b5
 generalize grow (redrawn W3 d) os=W4 at hM4 ⊢
 change wpAny _ _ _ _ 2 _ _ _
 refine A7 (n:=10) (by kernel_rfl) rfl hM4 0 (cs:=(elR v1)) rfl rfl rfl rfl Aw rfl (Ay v1) rfl rfl fun W5 hM5=>?_
 simp only[nm2,nm3] at hM5
 refine A7 (n:=11) (by kernel_rfl) rfl hM5 1 (cs:=(elR v2)) rfl rfl rfl rfl Aw rfl (Ay v2) rfl rfl fun W6 hM6=>?_
 simp only[nm2,nm3] at hM6
 refine wpAny_done (by kernel_rfl) ?_ _
 ((iterate 3 go_step);refine Ak 7 HMIX.out (by decide) (by kernel_rfl) (by kernel_rfl) ?_)
 refine Am (args:=#[.int .u64 121666]) (v:=Aa 121666) (rcf (enters_of Tryz.func34 rfl rfl)) (fun W _=>Cq 121666 (by decide) W) rfl rfl ?_;simp only[nmA]
 refine Ao hM6 1 (v:=Aa v2) rfl rfl rfl rfl Aw rfl rfl ?_;simp only[nmA]
 refine Ao hM6 0 (v:=Aa v1) rfl rfl rfl rfl Aw rfl rfl ?_;simp only[nmA]
 obtain⟨v3,ev3⟩:=exza ((v2+PN-v1)%PN)
 have pv3:v3<PN:=by rw[ev3];exact Nat.mod_lt _ Au
 have Kv3:=fun W=>Ex v2 v1 W pv2 pv1
 simp only[← ev3] at Kv3
 refine Am (args:=#[Aa v2,Aa v1]) (v:=Aa v3) (rcf (enters_of Tryz.func80 rfl rfl)) (fun W _=>Kv3 W) rfl rfl ?_;simp only[nmA]
 refine AX (n:=2) (L:=elR 121666++elR v3) (T:=36) (fun W=>Ax rfl (by simp[Act.eval]) (bs2 121666 v3 W)) rfl rfl ?_;simp only[List.nil_append,List.cons_append]
 obtain⟨v4,ev4⟩:=exza (121666*v3%PN)
 have pv4:v4<PN:=by rw[ev4];exact Nat.mod_lt _ Au
 have Kv4:=Ck 121666 v3 (by decide +kernel) pv3
 rw[← ev4] at Kv4
 refine A9 4 22 (v:=Aa v4) rfl rfl (fun _=>rfl) (fun b W=>AR W (enters_of Tryz.func76 rfl rfl) rfl (by simp[Act.eval,Act.put])) (fun b W h=>Kv4 b W h) ?_;simp only[nmA]
 refine Ce (.cells z4 36 (0,0)) rfl rfl (fun A W=>Ab rfl (Bk W)) ?_;simp only[List.nil_append,List.cons_append]
 refine AO fun d os=>?_
 refine Bb (t:=22) rfl fun s4=>?_
 refine Bm (t:=8) rfl fun b6 lb6 gb6=>?_
 refine Az fun hap=>?_
 simp only[nmA] at hap ⊢
 have hM7:=hM6.news1 (below_regrown W6 d os) lb6 gb6 
 clear hap lb6 gb6
 generalize grow (redrawn W6 d) os=W7 at hM7 ⊢
 change wpAny _ _ _ _ 1 _ _ _
 refine A7 (n:=7) (by kernel_rfl) rfl hM7 0 (cs:=(elR v4)) rfl rfl rfl rfl Aw rfl (Ay v4) rfl rfl fun W8 hM8=>?_
 simp only[nm2,nm3] at hM8
 refine wpAny_done (by kernel_rfl) ?_ _
 ((iterate 3 go_step);refine Ak 8 HMIX.out (by decide) (by kernel_rfl) (by kernel_rfl) ?_)
 refine Am (args:=#[.int .u64 121666]) (v:=Aa 121666) (rcf (enters_of Tryz.func34 rfl rfl)) (fun W _=>Cq 121666 (by decide) W) rfl rfl ?_;simp only[nmA]
 refine Am (args:=#[.int .u64 121665]) (v:=Aa 121665) (rcf (enters_of Tryz.func34 rfl rfl)) (fun W _=>Cq 121665 (by decide) W) rfl rfl ?_;simp only[nmA]
 refine Ao hM8 1 (v:=Aa v1) rfl rfl rfl rfl Aw rfl rfl ?_;simp only[nmA]
 refine Ao hM8 2 (v:=Aa v2) rfl rfl rfl rfl Aw rfl rfl ?_;simp only[nmA]
 refine AX (n:=3) (L:=elR 121665++elR v1++elR v2) (T:=36) (fun W=>Ax rfl (by simp[Act.eval]) (bs3 121665 v1 v2 W)) rfl rfl ?_;simp only[List.nil_append,List.cons_append]
 obtain⟨v5,ev5⟩:=exza (121665*v1%PN*v2%PN)
 have pv5:v5<PN:=by rw[ev5];exact Nat.mod_lt _ Au
 have Kv5:=Nz 121665 v1 v2 (by decide +kernel) pv1 pv2
 rw[← ev5] at Kv5
 refine A9 4 28 (v:=Aa v5) rfl rfl (fun _=>rfl) (fun b W=>AR W (enters_of Tryz.func76 rfl rfl) rfl (by simp[Act.eval,Act.put])) (fun b W h=>Kv5 b W h) ?_;simp only[nmA]
 obtain⟨v6,ev6⟩:=exza ((121666+PN-v5)%PN)
 have pv6:v6<PN:=by rw[ev6];exact Nat.mod_lt _ Au
 have Kv6:=fun W=>Ex 121666 v5 W (by decide +kernel) pv5
 simp only[← ev6] at Kv6
 refine Am (args:=#[Aa 121666,Aa v5]) (v:=Aa v6) (rcf (enters_of Tryz.func80 rfl rfl)) (fun W _=>Kv6 W) rfl rfl ?_;simp only[nmA]
 refine Ce (.cells z4 36 (0,0)) rfl rfl (fun A W=>Ab rfl (Bk W)) ?_;simp only[List.nil_append,List.cons_append]
 refine AO fun d os=>?_
 refine Bb (t:=28) rfl fun s4=>?_
 refine Bm (t:=9) rfl fun b7 lb7 gb7=>?_
 refine Az fun hap=>?_
 simp only[nmA] at hap ⊢
 have hM9:=hM8.news1 (below_regrown W8 d os) lb7 gb7 
 clear hap lb7 gb7
 generalize grow (redrawn W8 d) os=W9 at hM9 ⊢
 change wpAny _ _ _ _ 1 _ _ _
 refine A7 (n:=8) (by kernel_rfl) rfl hM9 0 (cs:=(elR v6)) rfl rfl rfl rfl Aw rfl (Ay v6) rfl rfl fun W10 hM10=>?_
 simp only[nm2,nm3] at hM10
 refine wpAny_done (by kernel_rfl) ?_ _
 ((iterate 4 go_step);refine wp_region_lit ?_)
 refine AD hM10 1 (v:=Aa v4) rfl rfl rfl rfl Aw rfl ?_
 simp only[nmA]
 refine AD hM10 0 (v:=Aa v6) rfl rfl rfl rfl Aw rfl ?_
 simp only[nmA]
 obtain⟨c1,hc1⟩:=exza (!decide (v4=v6))
 refine Ac (v:=.bool c1) (fun W=>Ag rfl rfl rfl (by rw[hc1];exact SI v4 v6 _ _ W (Bv pv4) (Bv pv6))) rfl ?_
 simp only[nmA]
 refine wpList_nil ?_
 cases c1
 ·skip
  ((iterate 7 go_step);refine wp_region_lit ?_)
  refine AD hM10 6 (v:=Aa X) rfl rfl rfl rfl Aw rfl ?_
  simp only[nmA]
  refine AD hM10 5 (v:=Aa Y) rfl rfl rfl rfl Aw rfl ?_
  simp only[nmA]
  obtain⟨v7,ev7⟩:=exza (X*Y%PN)
  have pv7:v7<PN:=by rw[ev7];exact Nat.mod_lt _ Au
  have KA:=fun W=>Sp X Y W hX hY
  simp only[← ev7] at KA
  refine Ah hM10 (args:=#[Aa X,Aa Y]) (v:=ptV X Y 1 v7) (rcf (enters_of Tryz.func73 rfl rfl)) (KA W10) rfl fun W11 hM11=>?_
  simp only[nmA]
  refine Av hM11 4 (cs:=((ptL X Y 1 v7).toArray)) rfl rfl rfl rfl AS rfl (G6 X Y 1 v7) rfl rfl fun W12 hM12=>?_
  simp only[nm2,nm3] at hM12
  refine Ad (.int .i64 0) ?_
  simp only[nmA]
  refine wpList_nil ?_
  ((iterate 3 go_step);refine bodyPost_ret (v:=.tuple #[ptV X Y 1 v7,.int .i64 0]) (AC Tryz.results33 rfl rfl (hM12.load 4 rfl AS)) rfl ⟨?_,hM12.below⟩)
  exact by subst ev7 ev6 ev5 ev4 ev3 ev2 ev1;rw[TJ,show Ru X Y=true from (Bool.not_eq_false' _).mp hc1.symm];rfl
 ·skip
  ((iterate 4 go_step);refine wp_region_lit ?_)
  refine Ah hM10 (args:=#[]) (v:=ptV 0 1 1 0) (rcf (enters_of Tryz.func27 rfl rfl)) (Qk W10) rfl fun W11 hM11=>?_
  simp only[nmA]
  refine Av hM11 4 (cs:=((ptL 0 1 1 0).toArray)) rfl rfl rfl rfl AS rfl (G6 0 1 1 0) rfl rfl fun W12 hM12=>?_
  simp only[nm2,nm3] at hM12
  refine Ad (.int .i64 22) ?_
  simp only[nmA]
  refine wpList_nil ?_
  ((iterate 4 go_step);refine bodyPost_ret (v:=.tuple #[ptV 0 1 1 0,.int .i64 22]) (AC Tryz.results33 rfl rfl (hM12.load 4 rfl AS)) rfl ⟨?_,hM12.below⟩)
  exact by subst ev6 ev5 ev4 ev3 ev2 ev1;rw[TJ,show Ru X Y=false from (Bool.not_eq_true' _).mp hc1.symm];rfl
open Go.RowKit
abbrev C8 (w:World) (b n c m:Nat):Prop:=w.cell? ⟨b,0,none⟩=some (.int .u64 (wd n 0:Int))∧w.cell? ⟨b,1,none⟩=some (.int .u64 (wd n 1:Int))∧w.cell? ⟨b,2,none⟩=some (.int .u64 (wd n 2:Int))∧w.cell? ⟨b,3,none⟩=some (.int .u64 (wd n 3:Int))∧w.cell? ⟨c,0,none⟩=some (.int .u64 (wd m 0:Int))∧w.cell? ⟨c,1,none⟩=some (.int .u64 (wd m 1:Int))∧w.cell? ⟨c,2,none⟩=some (.int .u64 (wd m 2:Int))∧w.cell? ⟨c,3,none⟩=some (.int .u64 (wd m 3:Int))
theorem C8.of {w:World} {b n c m:Nat} (h:C4 w b n) (g:C4 w c m):C8 w b n c m:=⟨h.1,h.2.1,h.2.2.1,h.2.2.2,g⟩
theorem C8.left {w:World} {b n c m:Nat} (h:C8 w b n c m):C4 w b n:=⟨h.1,h.2.1,h.2.2.1,h.2.2.2.1⟩
theorem C8.right {w:World} {b n c m:Nat} (h:C8 w b n c m):C4 w c m:=h.2.2.2.2
theorem C8.calls {w w':World} {b n c m N:Nat} (hb:Below N w w') (h:C8 w b n c m) (hN:w.heap.size≤N):C8 w' b n c m:=C8.of (C4.calls hb h.left hN) (C4.calls hb h.right hN)
theorem C8.alloc {w:World} {b n c m:Nat} (h:C8 w b n c m) (o:Obj):C8 (w.alloc o) b n c m:=C8.of (h.left.alloc o) (h.right.alloc o)
theorem C8.drew {w:World} {b n c m:Nat} (h:C8 w b n c m):C8 w.drew b n c m:=h
def P3:Nat:=(PN+3)/8
def P4:Nat:=(PN-1)/4
theorem gR:P3<B64^4:=by decide +kernel
theorem ig:P4<B64^4:=by decide +kernel
theorem gJ:Aa P3=.agg #[.int .u64 18446744073709551614,.int .u64 18446744073709551615,.int .u64 18446744073709551615,.int .u64 1152921504606846975]:=by
 unfold Aa
 rw[show wd P3 0=18446744073709551614 by decide +kernel,show wd P3 1=18446744073709551615 by decide +kernel,show wd P3 2=18446744073709551615 by decide +kernel,show wd P3 3=1152921504606846975 by decide +kernel]
 rfl
theorem f9:Aa P4=.agg #[.int .u64 18446744073709551611,.int .u64 18446744073709551615,.int .u64 18446744073709551615,.int .u64 2305843009213693951]:=by
 unfold Aa
 rw[show wd P4 0=18446744073709551611 by decide +kernel,show wd P4 1=18446744073709551615 by decide +kernel,show wd P4 2=18446744073709551615 by decide +kernel,show wd P4 3=2305843009213693951 by decide +kernel]
 rfl
def r0N (a:Nat):Nat:=a^P3%PN
theorem Wo (g k:Nat):g^k%PN<PN:=Nat.mod_lt _ Au
def r1N (i a:Nat):Nat:=if r0N a*r0N a%PN=a then r0N a else r0N a*i%PN
def okN (i a:Nat):Bool:=decide (r1N i a*r1N i a%PN=a)
def Bu (i a:Nat):Nat:=if r1N i a*r1N i a%PN=a then (if r1N i a%2=1 then (0+PN-r1N i a)%PN else r1N i a) else 0
theorem SN (a:Nat):r0N a<PN:=Nat.mod_lt _ Au
theorem Pg (i a:Nat):r1N i a<PN:=by
 unfold r1N
 split
 ·exact SN a
 ·exact Nat.mod_lt _ Au
theorem Wt (i:Nat) (hi:i<PN) (KI:∀ w,Calls Tryz.prog 133 #[Aa 2,Aa P4] w fun e w'=>e=.returned (Aa i)∧Below w.heap.size w w') (a:Nat) (w:World) (ha:a<PN):Calls Tryz.prog 79 #[Aa a] w fun e w'=>e=.returned (.tuple #[Aa (Bu i a),.bool (okN i a)])∧Below w.heap.size w w':=by
 have K3:=Lh (fun w=>Me a P3 w ha gR)
 rw[gJ,show a^P3%PN=r0N a from rfl] at K3
 have hr0:=SN a
 obtain⟨xa,xr,xz,xB⟩:=MT a 36 36 w
 have H1:Hid (r1N i a=if r0N a*r0N a%PN=a then r0N a else r0N a*i%PN):=rfl
 have hr1:=Pg i a
 obtain⟨r0,hr⟩:=exzb (r0N a)
 rw[hr] at K3 hr0 H1
 obtain⟨r1,hq⟩:=exzb (r1N i a)
 rw[hq] at H1 hr1
 have HR1:=Lh hq
 have KMM:=Lh mul_two
 have KI:=Lh KI
 rw[f9] at KI
 have KS:=Lh (fun w=>EZ 2 w (by decide))
 obtain⟨c2,hc2⟩:∃ c2,c2=2:=⟨2,rfl⟩
 have KS:Hid (∀ w,Calls Tryz.prog 34 #[.int .u64 2] w fun e w'=>e=.returned (Aa c2)∧Below w.heap.size w w'):=fun w=>by rw[hc2];exact KS.out w
 rw[← hc2] at KI
 clear hc2
 simp only[AL] at K3 KMM KI KS ⊢
 obtain⟨⟨p0,p1,p2,p3⟩,_⟩:=Aq xa
 have HLT:=Lh (And.intro ha (And.intro hr0 (And.intro hr1 hi)))
 clear hr hq ha hr0 hr1 hi
 go_enter Tryz.func79,Tryz.ntmps79
 go_wp2_with fail
 change Calls _ _ _ (A2 a 36 36 w) _
 generalize A2 a 36 36 w=X at *
 refine (K3.out X).mono ?_
 rintro e w1 ⟨rfl,hb1⟩
 have hs1:w.heap.size+2≤w1.heap.size:=by have:=hb1.size;omega
 have XA:=Lh ((xa.keep hb1).alloc (.cells #[.int .u64 (wd r0 0:Int),.int .u64 (wd r0 1:Int),.int .u64 (wd r0 2:Int),.int .u64 (wd r0 3:Int)] 36))
 have XR:=Lh ((xr.keep hb1).alloc (.cells #[.int .u64 (wd r0 0:Int),.int .u64 (wd r0 1:Int),.int .u64 (wd r0 2:Int),.int .u64 (wd r0 3:Int)] 36))
 have XB:=Lh (Bi (B0 hb1 xB (by omega)) (.cells #[.int .u64 (wd r0 0:Int),.int .u64 (wd r0 1:Int),.int .u64 (wd r0 2:Int),.int .u64 (wd r0 3:Int)] 36))
 have XO:Hid (IsA (w1.alloc (.cells #[.int .u64 (wd r0 0:Int),.int .u64 (wd r0 1:Int),.int .u64 (wd r0 2:Int),.int .u64 (wd r0 3:Int)] 36)) w1.heap.size r0 36):=(Aj w1 _ :)
 have hY1:(w1.alloc (.cells #[.int .u64 (wd r0 0:Int),.int .u64 (wd r0 1:Int),.int .u64 (wd r0 2:Int),.int .u64 (wd r0 3:Int)] 36)).heap.size=w1.heap.size+1:=Ae _ _
 have hYs:w1.heap.size+1≤(w1.alloc (.cells #[.int .u64 (wd r0 0:Int),.int .u64 (wd r0 1:Int),.int .u64 (wd r0 2:Int),.int .u64 (wd r0 3:Int)] 36)).heap.size:=by rw[hY1];omega
 clear xa xr xB hb1 xz hY1 p0 p1 p2 p3
 go_wp2_with fail
 generalize w1.alloc (.cells #[.int .u64 (wd r0 0:Int),.int .u64 (wd r0 1:Int),.int .u64 (wd r0 2:Int),.int .u64 (wd r0 3:Int)] 36)=Y at *
 generalize w1.heap.size=go at *
 have hq0:r0*r0%PN<PN:=Nat.mod_lt _ Au
 have KQ:=Lh (KMM.out r0 r0 HLT.out.2.1 HLT.out.2.1)
 obtain⟨q0,hq0'⟩:∃ q0,r0*r0%PN=q0:=⟨_,rfl⟩
 rw[hq0'] at KQ H1 hq0
 have kq:=fun w=>Ly q0 a w (Bv hq0) (Bv HLT.out.1)
 have hC:C8 Y go r0 w.heap.size a:=C8.of (Dk XO.out) (Dk XA.out)
 have hCd:C8 Y.drew go r0 w.heap.size a:=hC
 clear hq0 hq0'
 go_region_held3 (fun w'=>w'.cell? ⟨go,0,none⟩=some (.int .u64 (wd r0 0:Int))∧w'.cell? ⟨go,1,none⟩=some (.int .u64 (wd r0 1:Int))∧w'.cell? ⟨go,2,none⟩=some (.int .u64 (wd r0 2:Int))∧w'.cell? ⟨go,3,none⟩=some (.int .u64 (wd r0 3:Int))∧w'.cell? ⟨w.heap.size,0,none⟩=some (.int .u64 (wd a 0:Int))∧w'.cell? ⟨w.heap.size,1,none⟩=some (.int .u64 (wd a 1:Int))∧w'.cell? ⟨w.heap.size,2,none⟩=some (.int .u64 (wd a 2:Int))∧w'.cell? ⟨w.heap.size,3,none⟩=some (.int .u64 (wd a 3:Int))) (first | (with_reducible exact hCd) | (focus ((repeat (first | (with_reducible assumption) | (with_reducible apply C8.alloc) | (with_reducible apply C8.drew) | (with_reducible apply C8.calls) | exact Nat.le_refl _ | omega | (simp;done)));done))) (first
  | (go_at_call 76;(refine (KQ.out _ _ ?_).mono ?_);(focus ((first | exact Aj _ _ | exact Gl (Aj _ _));done));rintro e w3 ⟨rfl,hb3⟩))
 rename_i hH
 clear hH hC hCd
 have hs3:Y.heap.size+1≤w3.heap.size:=by have:=hb3.size;rw[World.size_drew,Ae] at this;exact this
 have ro3:=AH hb3 (XO.out.alloc _).drew (Nat.le_refl _)
 have ra3:=AH hb3 (XA.out.alloc _).drew (Nat.le_refl _)
 have rr3:=AH hb3 (XR.out.alloc _).drew (Nat.le_refl _)
 have rb3:=B0 hb3 (Dc (Bi XB.out _)) (by rw[World.size_drew,Ae];omega)
 clear hb3 kq XO XA XR XB
 by_cases h0:q0=a
 ·rw[decide_eq_true h0]
  have hr1:=H1.out
  rw[if_pos h0] at hr1
  subst hr1
  have RO:=Lh ro3
  have RA:=Lh ra3
  have RR:=Lh rr3
  have RB:=Lh rb3
  have hU:go<w3.heap.size:=by omega
  clear ro3 ra3 rr3 rb3 h0 H1
  go_wp2_with fail
  generalize w3=U at *
  have HQR:=Lh (show r1*r1%PN=r1*r1%PN from rfl)
  have hq1:r1*r1%PN<PN:=Nat.mod_lt _ Au
  have KQ1:=Lh (KMM.out r1 r1 HLT.out.2.2.1 HLT.out.2.2.1)
  obtain⟨q1,hq1'⟩:∃ q1,r1*r1%PN=q1:=⟨_,rfl⟩
  have HQ1:=Lh hq1'
  rw[hq1'] at KQ1 hq1
  have kq:=fun w=>Ly q1 a w (Bv hq1) (Bv HLT.out.1)
  have hC:C8 U go r1 w.heap.size a:=C8.of (Dk RO.out) (Dk RA.out)
  have hCd:C8 U.drew go r1 w.heap.size a:=hC
  clear hq1 hq1'
  go_region_held3 (fun w'=>w'.cell? ⟨go,0,none⟩=some (.int .u64 (wd r1 0:Int))∧w'.cell? ⟨go,1,none⟩=some (.int .u64 (wd r1 1:Int))∧w'.cell? ⟨go,2,none⟩=some (.int .u64 (wd r1 2:Int))∧w'.cell? ⟨go,3,none⟩=some (.int .u64 (wd r1 3:Int))∧w'.cell? ⟨w.heap.size,0,none⟩=some (.int .u64 (wd a 0:Int))∧w'.cell? ⟨w.heap.size,1,none⟩=some (.int .u64 (wd a 1:Int))∧w'.cell? ⟨w.heap.size,2,none⟩=some (.int .u64 (wd a 2:Int))∧w'.cell? ⟨w.heap.size,3,none⟩=some (.int .u64 (wd a 3:Int))) (first | (with_reducible exact hCd) | (focus ((repeat (first | (with_reducible assumption) | (with_reducible apply C8.alloc) | (with_reducible apply C8.drew) | (with_reducible apply C8.calls) | exact Nat.le_refl _ | omega | (simp;done)));done))) (first
   | (go_at_call 76;(refine (KQ1.out _ _ ?_).mono ?_);(focus ((first | exact Aj _ _ | exact Gl (Aj _ _));done));rintro e w6 ⟨rfl,hb6⟩))
  rename_i hH
  clear hH hC hCd
  have hs6:U.heap.size+1≤w6.heap.size:=by have:=hb6.size;rw[World.size_drew,Ae] at this;exact this
  have ro6:=AH hb6 (RO.out.alloc _).drew (Nat.le_refl _)
  have ra6:=AH hb6 (RA.out.alloc _).drew (Nat.le_refl _)
  have rr6:=AT (AH hb6 (RR.out.alloc _).drew (Nat.le_refl _))
  have rb6:=B0 hb6 (Dc (Bi RB.out _)) (by rw[World.size_drew,Ae];omega)
  clear hb6 kq
  by_cases h1:q1=a
  ·rw[decide_eq_true h1]
   have KO:=Lh (fun w=>Lz r1 w)
   have KN:=Lh (fun w=>Ho r1 w HLT.out.2.2.1)
   simp only[AL] at KO KN
   obtain⟨⟨s0,s1,s2,s3⟩,_⟩:=Aq ro6
   have RO6:=Lh ro6
   have RR6:=Lh rr6
   have RB6:=Lh rb6
   have H1T:=Lh h1
   clear ro6 ra6 rr6 rb6 h1 RO RA RR RB
   go_wp2_with fail
   refine (KO.out _).mono ?_
   rintro e w7 ⟨rfl,hb7⟩
   have hs7:=hb7.size
   have ro7:=RO6.out.keep hb7
   have rr7:=keep RR6.out hb7
   have rb7:=B0 hb7 RB6.out (by omega)
   clear RO6 RR6 RB6 hb7 s0 s1 s2 s3
   by_cases h2:r1%2=1
   ·rw[decide_eq_true h2]
    have hR:Bu i a=(0+PN-r1)%PN:=by
     unfold Bu
     rw[HR1.out,HQ1.out,if_pos H1T.out,if_pos h2]
    have hO:okN i a=true:=by
     unfold okN
     rw[HR1.out,HQ1.out]
     exact decide_eq_true H1T.out
    obtain⟨R,hRR⟩:=exzb ((0+PN-r1)%PN)
    rw[hRR] at KN hR
    have HRT:=Lh (And.intro hR hO)
    obtain⟨⟨s0,s1,s2,s3⟩,_⟩:=Aq ro7
    have RO7:=Lh ro7
    have RR7:=Lh rr7
    have RB7:=Lh rb7
    clear h2 hR hO hRR ro7 rr7 rb7
    go_wp2_with fail
    refine (KN.out _).mono ?_
    rintro e w8 ⟨rfl,hb8⟩
    have hs8:=hb8.size
    have ro8:=RO7.out.keep hb8
    have rr8:=keep RR7.out hb8
    obtain⟨⟨d0,d1,d2,d3⟩,e0,e1,e2,e3⟩:=Aq ro8
    obtain⟨⟨c0,c1,c2,c3⟩,f0,f1,f2,f3⟩:=Aq rr8
    have hne1:go≠w.heap.size+1:=by omega
    have hne2:w.heap.size+1≠go:=by omega
    have KL:=Lh (Cm (AN (n:=R) (Gn (b:=go) (v0:=.int .u64 (wd R 0:Int)) (v1:=.int .u64 (wd R 1:Int)) (v2:=.int .u64 (wd R 2:Int)) (v3:=.int .u64 (wd R 3:Int)) rr8 hne2)))
    have BR:=Lh (Bh (Bh (B0 hb8 RB7.out (by omega)) (v0:=.int .u64 (wd R 0:Int)) (v1:=.int .u64 (wd R 1:Int)) (v2:=.int .u64 (wd R 2:Int)) (v3:=.int .u64 (wd R 3:Int)) (b:=go) (by omega)) (v0:=.int .u64 (wd R 0:Int)) (v1:=.int .u64 (wd R 1:Int)) (v2:=.int .u64 (wd R 2:Int)) (v3:=.int .u64 (wd R 3:Int)) (b:=w.heap.size+1) (by omega))
    clear RO7 RR7 RB7 hb8 ro8 rr8 s0 s1 s2 s3
    go_wp2_with fail
    exact bodyPost_ret (AC Tryz.results79 (by rfl) (by rfl) KL.out) rfl ⟨by rw[HRT.out.1,HRT.out.2];rfl,BR.out⟩
   ·rw[decide_eq_false h2]
    have hR:Bu i a=r1:=by
     unfold Bu
     rw[HR1.out,HQ1.out,if_pos H1T.out,if_neg h2]
    have hO:okN i a=true:=by
     unfold okN
     rw[HR1.out,HQ1.out]
     exact decide_eq_true H1T.out
    have HRT:=Lh (And.intro hR hO)
    obtain⟨⟨s0,s1,s2,s3⟩,_⟩:=Aq ro7
    obtain⟨⟨d0,d1,d2,d3⟩,e0,e1,e2,e3⟩:=Aq rr7
    have KL:=Lh (Cm (AN (n:=r1) rr7))
    have BR:=Lh (Bh rb7 (v0:=.int .u64 (wd r1 0:Int)) (v1:=.int .u64 (wd r1 1:Int)) (v2:=.int .u64 (wd r1 2:Int)) (v3:=.int .u64 (wd r1 3:Int)) (b:=w.heap.size+1) (by omega))
    clear h2 hR hO ro7 rr7 rb7
    go_wp2_with fail
    exact bodyPost_ret (AC Tryz.results79 (by rfl) (by rfl) KL.out) rfl ⟨by rw[HRT.out.1,HRT.out.2];rfl,BR.out⟩
  ·rw[decide_eq_false h1]
   have hR:Bu i a=0:=by
    unfold Bu
    rw[HR1.out,HQ1.out,if_neg h1]
   have hO:okN i a=false:=by
    unfold okN
    rw[HR1.out,HQ1.out]
    exact decide_eq_false h1
   have HRT:=Lh (And.intro hR hO)
   obtain⟨⟨d0,d1,d2,d3⟩,e0,e1,e2,e3⟩:=Aq rr6
   have KL:=Lh (Cm (CE (Gr (v0:=.int .u64 0) (v1:=.int .u64 0) (v2:=.int .u64 0) (v3:=.int .u64 0) rr6)))
   have BR:=Lh (Bh rb6 (v0:=.int .u64 0) (v1:=.int .u64 0) (v2:=.int .u64 0) (v3:=.int .u64 0) (b:=w.heap.size+1) (by omega))
   clear h1 hR hO ro6 ra6 rr6 rb6 RO RA RR RB
   go_wp2_with fail
   exact bodyPost_ret (AC Tryz.results79 (by rfl) (by rfl) KL.out) rfl ⟨by rw[HRT.out.1,HRT.out.2];rfl,BR.out⟩
 ·rw[decide_eq_false h0]
  have hr1:=H1.out
  rw[if_neg h0] at hr1
  have KR:=Lh (KMM.out r0 i HLT.out.2.1 HLT.out.2.2.2)
  rw[← hr1] at KR
  obtain⟨⟨p0,p1,p2,p3⟩,g0,g1,g2,g3⟩:=Aq ro3
  have RO:=Lh ro3
  have RA:=Lh ra3
  have RR:=Lh rr3
  have RB:=Lh rb3
  clear ro3 ra3 rr3 rb3 h0 H1 hr1
  go_wp2_with fail
  go_cut [] (fun wc=>IsA wc go r1 36∧IsA wc w.heap.size a 36∧IsA wc (w.heap.size+1) 0 36∧Below w.heap.size w wc∧go<wc.heap.size)
  case first =>
   go_region_law (first
    | (go_simp;go_at_call 34;go_must (refine (KS.out _).mono ?_);rintro e w4 ⟨rfl,hb4⟩
       have ro4:=AH hb4 RO.out.drew (Nat.le_refl _)
       obtain⟨⟨k0,k1,k2,k3⟩,f0,f1,f2,f3⟩:=Aq ro4)
    | (go_simp;go_at_call 133;go_must (refine (KI.out _).mono ?_);rintro e w5 ⟨rfl,hb5⟩
       have ro5:=AH hb5 ro4 (Nat.le_refl _)
       obtain⟨⟨m0,m1,m2,m3⟩,h0,h1,h2,h3⟩:=Aq ro5)
    | (go_simp;go_at_call 76;(refine (KR.out _ _ ?_).mono ?_);(focus ((first | exact Aj _ _ | exact Gl (Aj _ _));done));rintro e w6 ⟨rfl,hb6⟩
       have ro6:=AH hb6 (ro5.alloc _) (Nat.le_refl _)
       obtain⟨⟨n0,n1,n2,n3⟩,o0,o1,o2,o3⟩:=Aq ro6))
   all_goals
    have hz4:w3.heap.size≤w4.heap.size:=hb4.size
    have hz5:=hb5.size
    have hz6:w5.heap.size+1≤w6.heap.size:=by have:=hb6.size;rw[Ae] at this;exact this
    have RO':=Lh (AN (n:=r1) ro6)
    have RA':=Lh ((AH hb6 ((AH hb5 (AH hb4 RA.out.drew (Nat.le_refl _)) (Nat.le_refl _)).alloc _) (Nat.le_refl _)).far (c:=go) (v0:=.int .u64 (wd r1 0:Int)) (v1:=.int .u64 (wd r1 1:Int)) (v2:=.int .u64 (wd r1 2:Int)) (v3:=.int .u64 (wd r1 3:Int)) (by omega))
    have RR':=Lh ((AH hb6 ((AH hb5 (AH hb4 RR.out.drew (Nat.le_refl _)) (Nat.le_refl _)).alloc _) (Nat.le_refl _)).far (c:=go) (v0:=.int .u64 (wd r1 0:Int)) (v1:=.int .u64 (wd r1 1:Int)) (v2:=.int .u64 (wd r1 2:Int)) (v3:=.int .u64 (wd r1 3:Int)) (by omega))
    have RB':=Lh (Bh (B0 hb6 (Bi (B0 hb5 (B0 hb4 (Dc RB.out) (by rw[World.size_drew];omega)) (by omega)) _) (by rw[Ae];omega)) (v0:=.int .u64 (wd r1 0:Int)) (v1:=.int .u64 (wd r1 1:Int)) (v2:=.int .u64 (wd r1 2:Int)) (v3:=.int .u64 (wd r1 3:Int)) (b:=go) (by omega))
    have hU:go<((((w6.setCell ⟨go,0,none⟩ (.int .u64 (wd r1 0:Int))).setCell ⟨go,1,none⟩ (.int .u64 (wd r1 1:Int))).setCell ⟨go,2,none⟩ (.int .u64 (wd r1 2:Int))).setCell ⟨go,3,none⟩ (.int .u64 (wd r1 3:Int))).heap.size:=by simp only[Hz];omega
    go_wp2_with fail
    go_meet
    case rel=>exact⟨RO'.out,RA'.out,RR'.out,RB'.out,hU⟩
  case rest =>
   clear RO RA RR RB p0 p1 p2 p3 g0 g1 g2 g3 KS KI KR
   obtain⟨ro,ra,rr,rb,hU⟩:=hcut
   have RO:=Lh ro
   have RA:=Lh ra
   have RR:=Lh rr
   have RB:=Lh rb
   clear ro ra rr rb
   go_wp2_with fail
   generalize wc=U at *
   have HQR:=Lh (show r1*r1%PN=r1*r1%PN from rfl)
   have hq1:r1*r1%PN<PN:=Nat.mod_lt _ Au
   have KQ1:=Lh (KMM.out r1 r1 HLT.out.2.2.1 HLT.out.2.2.1)
   obtain⟨q1,hq1'⟩:∃ q1,r1*r1%PN=q1:=⟨_,rfl⟩
   have HQ1:=Lh hq1'
   rw[hq1'] at KQ1 hq1
   have kq:=fun w=>Ly q1 a w (Bv hq1) (Bv HLT.out.1)
   have hC:C8 U go r1 w.heap.size a:=C8.of (Dk RO.out) (Dk RA.out)
   have hCd:C8 U.drew go r1 w.heap.size a:=hC
   clear hq1 hq1'
   go_region_held3 (fun w'=>w'.cell? ⟨go,0,none⟩=some (.int .u64 (wd r1 0:Int))∧w'.cell? ⟨go,1,none⟩=some (.int .u64 (wd r1 1:Int))∧w'.cell? ⟨go,2,none⟩=some (.int .u64 (wd r1 2:Int))∧w'.cell? ⟨go,3,none⟩=some (.int .u64 (wd r1 3:Int))∧w'.cell? ⟨w.heap.size,0,none⟩=some (.int .u64 (wd a 0:Int))∧w'.cell? ⟨w.heap.size,1,none⟩=some (.int .u64 (wd a 1:Int))∧w'.cell? ⟨w.heap.size,2,none⟩=some (.int .u64 (wd a 2:Int))∧w'.cell? ⟨w.heap.size,3,none⟩=some (.int .u64 (wd a 3:Int))) (first | (with_reducible exact hCd) | (focus ((repeat (first | (with_reducible assumption) | (with_reducible apply C8.alloc) | (with_reducible apply C8.drew) | (with_reducible apply C8.calls) | exact Nat.le_refl _ | omega | (simp;done)));done))) (first
    | (go_at_call 76;(refine (KQ1.out _ _ ?_).mono ?_);(focus ((first | exact Aj _ _ | exact Gl (Aj _ _));done));rintro e w6 ⟨rfl,hb6⟩))
   rename_i hH
   clear hH hC hCd
   have hs6:U.heap.size+1≤w6.heap.size:=by have:=hb6.size;rw[World.size_drew,Ae] at this;exact this
   have ro6:=AH hb6 (RO.out.alloc _).drew (Nat.le_refl _)
   have ra6:=AH hb6 (RA.out.alloc _).drew (Nat.le_refl _)
   have rr6:=AT (AH hb6 (RR.out.alloc _).drew (Nat.le_refl _))
   have rb6:=B0 hb6 (Dc (Bi RB.out _)) (by rw[World.size_drew,Ae];omega)
   clear hb6 kq
   by_cases h1:q1=a
   ·rw[decide_eq_true h1]
    have KO:=Lh (fun w=>Lz r1 w)
    have KN:=Lh (fun w=>Ho r1 w HLT.out.2.2.1)
    simp only[AL] at KO KN
    obtain⟨⟨s0,s1,s2,s3⟩,_⟩:=Aq ro6
    have RO6:=Lh ro6
    have RR6:=Lh rr6
    have RB6:=Lh rb6
    have H1T:=Lh h1
    clear ro6 ra6 rr6 rb6 h1 RO RA RR RB
    go_wp2_with fail
    refine (KO.out _).mono ?_
    rintro e w7 ⟨rfl,hb7⟩
    have hs7:=hb7.size
    have ro7:=RO6.out.keep hb7
    have rr7:=keep RR6.out hb7
    have rb7:=B0 hb7 RB6.out (by omega)
    clear RO6 RR6 RB6 hb7 s0 s1 s2 s3
    by_cases h2:r1%2=1
    ·rw[decide_eq_true h2]
     have hR:Bu i a=(0+PN-r1)%PN:=by
      unfold Bu
      rw[HR1.out,HQ1.out,if_pos H1T.out,if_pos h2]
     have hO:okN i a=true:=by
      unfold okN
      rw[HR1.out,HQ1.out]
      exact decide_eq_true H1T.out
     obtain⟨R,hRR⟩:=exzb ((0+PN-r1)%PN)
     rw[hRR] at KN hR
     have HRT:=Lh (And.intro hR hO)
     obtain⟨⟨s0,s1,s2,s3⟩,_⟩:=Aq ro7
     have RO7:=Lh ro7
     have RR7:=Lh rr7
     have RB7:=Lh rb7
     clear h2 hR hO hRR ro7 rr7 rb7
     go_wp2_with fail
     refine (KN.out _).mono ?_
     rintro e w8 ⟨rfl,hb8⟩
     have hs8:=hb8.size
     have ro8:=RO7.out.keep hb8
     have rr8:=keep RR7.out hb8
     obtain⟨⟨d0,d1,d2,d3⟩,e0,e1,e2,e3⟩:=Aq ro8
     obtain⟨⟨c0,c1,c2,c3⟩,f0,f1,f2,f3⟩:=Aq rr8
     have hne1:go≠w.heap.size+1:=by omega
     have hne2:w.heap.size+1≠go:=by omega
     have KL:=Lh (Cm (AN (n:=R) (Gn (b:=go) (v0:=.int .u64 (wd R 0:Int)) (v1:=.int .u64 (wd R 1:Int)) (v2:=.int .u64 (wd R 2:Int)) (v3:=.int .u64 (wd R 3:Int)) rr8 hne2)))
     have BR:=Lh (Bh (Bh (B0 hb8 RB7.out (by omega)) (v0:=.int .u64 (wd R 0:Int)) (v1:=.int .u64 (wd R 1:Int)) (v2:=.int .u64 (wd R 2:Int)) (v3:=.int .u64 (wd R 3:Int)) (b:=go) (by omega)) (v0:=.int .u64 (wd R 0:Int)) (v1:=.int .u64 (wd R 1:Int)) (v2:=.int .u64 (wd R 2:Int)) (v3:=.int .u64 (wd R 3:Int)) (b:=w.heap.size+1) (by omega))
     clear RO7 RR7 RB7 hb8 ro8 rr8 s0 s1 s2 s3
     go_wp2_with fail
     exact bodyPost_ret (AC Tryz.results79 (by rfl) (by rfl) KL.out) rfl ⟨by rw[HRT.out.1,HRT.out.2];rfl,BR.out⟩
    ·rw[decide_eq_false h2]
     have hR:Bu i a=r1:=by
      unfold Bu
      rw[HR1.out,HQ1.out,if_pos H1T.out,if_neg h2]
     have hO:okN i a=true:=by
      unfold okN
      rw[HR1.out,HQ1.out]
      exact decide_eq_true H1T.out
     have HRT:=Lh (And.intro hR hO)
     obtain⟨⟨s0,s1,s2,s3⟩,_⟩:=Aq ro7
     obtain⟨⟨d0,d1,d2,d3⟩,e0,e1,e2,e3⟩:=Aq rr7
     have KL:=Lh (Cm (AN (n:=r1) rr7))
     have BR:=Lh (Bh rb7 (v0:=.int .u64 (wd r1 0:Int)) (v1:=.int .u64 (wd r1 1:Int)) (v2:=.int .u64 (wd r1 2:Int)) (v3:=.int .u64 (wd r1 3:Int)) (b:=w.heap.size+1) (by omega))
     clear h2 hR hO ro7 rr7 rb7
     go_wp2_with fail
     exact bodyPost_ret (AC Tryz.results79 (by rfl) (by rfl) KL.out) rfl ⟨by rw[HRT.out.1,HRT.out.2];rfl,BR.out⟩
   ·rw[decide_eq_false h1]
    have hR:Bu i a=0:=by
     unfold Bu
     rw[HR1.out,HQ1.out,if_neg h1]
    have hO:okN i a=false:=by
     unfold okN
     rw[HR1.out,HQ1.out]
     exact decide_eq_false h1
    have HRT:=Lh (And.intro hR hO)
    obtain⟨⟨d0,d1,d2,d3⟩,e0,e1,e2,e3⟩:=Aq rr6
    have KL:=Lh (Cm (CE (Gr (v0:=.int .u64 0) (v1:=.int .u64 0) (v2:=.int .u64 0) (v3:=.int .u64 0) rr6)))
    have BR:=Lh (Bh rb6 (v0:=.int .u64 0) (v1:=.int .u64 0) (v2:=.int .u64 0) (v3:=.int .u64 0) (b:=w.heap.size+1) (by omega))
    clear h1 hR hO ro6 ra6 rr6 rb6 RO RA RR RB
    go_wp2_with fail
    exact bodyPost_ret (AC Tryz.results79 (by rfl) (by rfl) KL.out) rfl ⟨by rw[HRT.out.1,HRT.out.2];rfl,BR.out⟩
end Go.Proofs.YtnaldciakclccaaGreat
