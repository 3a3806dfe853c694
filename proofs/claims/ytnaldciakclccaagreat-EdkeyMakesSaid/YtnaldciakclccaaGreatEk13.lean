/- The reference's Root (layer 19): its contract. What layer 19's law of powers asks of numbers. No walk in it. The reference's rows (layer 20): what makes them, loads them, compares them; its numbers' contracts. A great prime that divides what the order of the curve's base is less 1. No program in it. The order of the curve's base has no small divisors. No program in it. The curve's base, reckoned on numbers: so many times it is 0; fewer than 2^32 times never. No program in it. -/
import Derived.Test.YtnaldciakclccaaGreatEk12
import Derived.Test.YtnaldciakclccaaGreatEk10
import Derived.Test.YtnaldciakclccaaGreatEk04
import Derived.Test.YtnaldciakclccaaGreatEk07
namespace Go.Proofs.YtnaldciakclccaaGreat
set_option maxRecDepth 20000
set_option linter.unusedSimpArgs false
set_option linter.unusedVariables false
open Go.RowKit
theorem eql_arJ (w:World) (x0 x1 x2 x3 y0 y1 y2 y3:Int):(Op.equalIn 10000 23 (.agg #[.int .u64 x0,.int .u64 x1,.int .u64 x2,.int .u64 x3]) (.agg #[.int .u64 y0,.int .u64 y1,.int .u64 y2,.int .u64 y3])).run Tryz.prog w=.ok (x0 == y0 && (x1 == y1 && (x2 == y2 && x3 == y3))) w:=by
 have he:∀ (a b:Int) (w:World),(Op.equalIn 9999 22 (.int .u64 a) (.int .u64 b)).run Tryz.prog w=.ok (a == b) w:=fun a b w=>run_equalIn_int w 9998 22 .u64 .u64 a b Tryz.underlying22
 rw[show (10000:Nat)=9999+1 from rfl,Op.equalIn]
 simp only[Sem.run_bind,run_underlying Tryz.underlying23,Result.andThen_ok]
 have hp:∀ (v:Value) (k:Nat) (xs:Array Value) (w:World),xs[k]?=some v→(part 22 xs k).run Tryz.prog w=.ok v w:=fun v k xs w h=>by
  simp only[part]
  go_simp
 have hz:∀ w,(sizeOf 22).run Tryz.prog w=.ok 1 w:=Tryz.sizeOf22
 rw[hz]
 simp only[Result.andThen_ok]
 rw[Std.Legacy.Range.forIn_eq_forIn_range']
 simp[Std.Legacy.Range.size,List.range']
 have a0:=fun w=>hp (.int .u64 x0) 0 #[.int .u64 x0,.int .u64 x1,.int .u64 x2,.int .u64 x3] w rfl
 have b0:=fun w=>hp (.int .u64 y0) 0 #[.int .u64 y0,.int .u64 y1,.int .u64 y2,.int .u64 y3] w rfl
 have a1:=fun w=>hp (.int .u64 x1) 1 #[.int .u64 x0,.int .u64 x1,.int .u64 x2,.int .u64 x3] w rfl
 have b1:=fun w=>hp (.int .u64 y1) 1 #[.int .u64 y0,.int .u64 y1,.int .u64 y2,.int .u64 y3] w rfl
 have a2:=fun w=>hp (.int .u64 x2) 2 #[.int .u64 x0,.int .u64 x1,.int .u64 x2,.int .u64 x3] w rfl
 have b2:=fun w=>hp (.int .u64 y2) 2 #[.int .u64 y0,.int .u64 y1,.int .u64 y2,.int .u64 y3] w rfl
 have a3:=fun w=>hp (.int .u64 x3) 3 #[.int .u64 x0,.int .u64 x1,.int .u64 x2,.int .u64 x3] w rfl
 have b3:=fun w=>hp (.int .u64 y3) 3 #[.int .u64 y0,.int .u64 y1,.int .u64 y2,.int .u64 y3] w rfl
 simp only[a0,b0,a1,b1,a2,b2,a3,b3,he,Result.andThen_ok]
 generalize (x0 == y0)=c0
 generalize (x1 == y1)=c1
 generalize (x2 == y2)=c2
 generalize (x3 == y3)=c3
 cases c0 <;> cases c1 <;> cases c2 <;> cases c3 <;> simp
theorem eql_arR (a b:Nat) (w:World) (ha:a<B64^4) (hb:b<B64^4):(Op.equalIn 10000 23 (.agg #[.int .u64 (wd a 0:Int),.int .u64 (wd a 1:Int),.int .u64 (wd a 2:Int),.int .u64 (wd a 3:Int)]) (.agg #[.int .u64 (wd b 0:Int),.int .u64 (wd b 1:Int),.int .u64 (wd b 2:Int),.int .u64 (wd b 3:Int)])).run Tryz.prog w=.ok (decide (a=b)) w:=by
 rw[eql_arJ,wd_same a b ha hb]
theorem odd_wordR (X:Nat):wd X 0%2=X%2:=by
 unfold wd
 rw[Nat.pow_zero,Nat.div_one]
 exact Nat.mod_mod_of_dvd X (by decide)
theorem eql_ar2 (a b:Nat) (w:World) (ha:a<B64^4) (hb:b<B64^4):(Op.equalIn 10000 23 (.agg #[.int .u64 (wd a 0:Int),.int .u64 (wd a 1:Int),.int .u64 (wd a 2:Int),.int .u64 (wd a 3:Int)]) (.agg #[.int .u64 (wd b 0:Int),.int .u64 (wd b 1:Int),.int .u64 (wd b 2:Int),.int .u64 (wd b 3:Int)])).run Tryz.prog w=.ok (decide (a=b)) w:=eql_arR a b w ha hb
def rokN (a:Nat):Bool:=decide (a^E2%PN=0) || decide (a^E2%PN=1)
def rrootN (i a:Nat):Nat:=if rokN a=true then (if r1N i a%2=1 then (0+PN-r1N i a)%PN else r1N i a) else 0
set_option maxRecDepth 20000 in
set_option maxHeartbeats 4000000 in
theorem rroot_any (a:Nat) (w:World) (ha:a<PN):Calls Tryz.prog 70 #[numV a] w fun e w'=>e=.returned (.tuple #[numV (rrootN iV a),.bool (rokN a)])∧Below w.heap.size w w':=by
 have HMIX:=Lib.hid (show Tryz.prog.follows .mixedOrders=true by kernel_rfl)
 have KT1:=Lib.hid part_E2
 have KP1:=Lib.hid (fun w=>rpow_any a E2 w ha E2_B)
 have KT2:=Lib.hid part_P3
 have KP2:=Lib.hid (fun w=>rpow_any a P3 w ha P3_B)
 have KT3:=Lib.hid part_P4
 have KP3:=Lib.hid rpow_iV
 have hx:a^E2%PN<PN:=powmod_lt a E2
 have hROK:rokN a=(decide (a^E2%PN=0) || decide (a^E2%PN=1)):=rfl
 have HRT:Hid (rrootN iV a=if rokN a=true then (if r1N iV a%2=1 then (0+PN-r1N iV a)%PN else r1N iV a) else 0):=rfl
 have hr0:=r0N_lt a
 have hr1:=r1N_lt iV a
 have H1:Hid (r1N iV a=if r0N a*r0N a%PN=a then r0N a else r0N a*iV%PN):=rfl
 have e0:a^P3%PN=r0N a:=rfl
 rw[e0] at KP2
 have hiV:=iV_lt
 obtain⟨X0,hX0⟩:∃ X0,a^E2%PN=X0:=⟨_,rfl⟩
 obtain⟨r0,hr⟩:∃ r0,r0N a=r0:=⟨_,rfl⟩
 obtain⟨r1,hq⟩:∃ r1,r1N iV a=r1:=⟨_,rfl⟩
 obtain⟨i,hi⟩:∃ i,iV=i:=⟨_,rfl⟩
 rw[hX0] at KP1 hx hROK
 rw[hr] at KP2 H1 hr0
 rw[hq] at H1 HRT hr1
 rw[hi] at KP3 H1 hiV
 have S0:=Lib.hid (fun w=>rsmallp_any 0 w (by decide))
 have S1:=Lib.hid (fun w=>rsmallp_any 1 w (by decide))
 have S2:=Lib.hid (fun w=>rsmallp_any 2 w (by decide))
 obtain⟨x0,hx0⟩:∃ x0,x0=0:=⟨0,rfl⟩
 obtain⟨x1,hx1⟩:∃ x1,x1=1:=⟨1,rfl⟩
 obtain⟨x2,hx2⟩:∃ x2,x2=2:=⟨2,rfl⟩
 have S0:Hid (∀ w,Calls Tryz.prog 68 #[.int .u64 0] w fun e w'=>e=.returned (numV x0)∧Below w.heap.size w w'):=fun w=>by rw[hx0];exact S0.out w
 have S1:Hid (∀ w,Calls Tryz.prog 68 #[.int .u64 1] w fun e w'=>e=.returned (numV x1)∧Below w.heap.size w w'):=fun w=>by rw[hx1];exact S1.out w
 have S2:Hid (∀ w,Calls Tryz.prog 68 #[.int .u64 2] w fun e w'=>e=.returned (numV x2)∧Below w.heap.size w w'):=fun w=>by rw[hx2];exact S2.out w
 rw[← hx2] at KP3
 have kz0:=fun w=>eql_ar2 X0 x0 w (of_PN hx) (by rw[hx0];decide)
 have kz1:=fun w=>eql_ar2 X0 x1 w (of_PN hx) (by rw[hx1];decide)
 have KS0:Hid (∀ w,Calls Tryz.prog 114 #[numV x0,numV r1] w fun e w'=>e=.returned (numV ((0+PN-r1)%PN))∧Below w.heap.size w w'):=fun w=>by
  rw[hx0]
  exact rsubp_any 0 r1 w (by decide) (of_PN hr1) (by omega)
 have KMs:=Lib.hid rmulp_any
 rw[← hx0,← hx1] at hROK
 obtain⟨t1,ht1⟩:∃ t1,E2=t1:=⟨_,rfl⟩
 obtain⟨t2,ht2⟩:∃ t2,P3=t2:=⟨_,rfl⟩
 obtain⟨t3,ht3⟩:∃ t3,P4=t3:=⟨_,rfl⟩
 rw[ht1] at KT1 KP1
 rw[ht2] at KT2 KP2
 rw[ht3] at KT3 KP3
 have HROK:=Lib.hid hROK
 have HLT:=Lib.hid (And.intro ha (And.intro hr0 (And.intro hr1 hiV)))
 obtain⟨xa,xr,xz,xB⟩:=a2_at a 23 23 w
 simp only[numV_agg] at KT1 KP1 KT2 KP2 KT3 KP3 S0 S1 S2 KS0 ⊢
 clear hx e0 hX0 hr hq hi hx0 hx1 hx2 ht1 ht2 ht3 hROK ha hr0 hr1 hiV
 go_enter Tryz.func70,Tryz.ntmps70
 go_wp2_with fail
 change Code.wp _ _ _ _ (A2 a 23 23 w)
 generalize A2 a 23 23 w=X at *
 have RA:=Lib.hid xa
 have RR:=Lib.hid xr
 have RB:=Lib.hid xB
 have hXs:w.heap.size+2≤X.heap.size:=by omega
 clear xa xr xz xB
 go_cut [4] (fun s4 wc=>∃ b4,s4=.pointer (some ⟨b4,0,none⟩)∧IsA wc b4 X0 23∧IsA wc w.heap.size a 23∧IsA wc (w.heap.size+1) 0 23∧Below w.heap.size w wc)
 case first =>
  clear kz0 kz1
  have hC0:C4 X w.heap.size a:=cells4 RA.out
  have hC:C4 X w.heap.size a:=hC0
  have hCd:C4 X.drew w.heap.size a:=hC0
  go_region_held3 (fun w'=>w'.cell? ⟨w.heap.size,0,none⟩=some (.int .u64 (wd a 0:Int))∧w'.cell? ⟨w.heap.size,1,none⟩=some (.int .u64 (wd a 1:Int))∧w'.cell? ⟨w.heap.size,2,none⟩=some (.int .u64 (wd a 2:Int))∧w'.cell? ⟨w.heap.size,3,none⟩=some (.int .u64 (wd a 3:Int))) (first | (with_reducible exact hCd) | (focus ((repeat (first | (with_reducible assumption) | (with_reducible apply C4.alloc) | (with_reducible apply C4.drew) | (with_reducible apply C4.far) | (with_reducible apply C4.calls) | exact Nat.le_refl _ | omega | (simp;done)));done))) (first
   | (go_at_call 127;go_must (refine (KT1.out _).mono ?_);rintro e w3 ⟨rfl,hb3⟩
      have hs3:=hb3.size
      (try simp at hs3)
      try (have N3:w3.heap[X.heap.size]?=some (.cells #[.int .u64 0,.int .u64 0,.int .u64 0,.int .u64 0] 23 (0,0)):=by
             refine keep ?_ hb3
             exact alloc_new X _
           obtain⟨⟨c0,c1,c2,c3⟩,cf0,cf1,cf2,cf3⟩:=fourV N3))
   | (go_at_call 126;go_must (refine (KP1.out _).mono ?_);rintro e w4 ⟨rfl,hb4⟩
      have hs4:=hb4.size
      (try simp at hs4)
      try (have N4:w4.heap[X.heap.size]?=some (.cells #[.int .u64 0,.int .u64 0,.int .u64 0,.int .u64 0] 23 (0,0)):=keep N3 hb4
           obtain⟨⟨g0,g1,g2,g3⟩,gf0,gf1,gf2,gf3⟩:=fourV N4)
      try (have O4:w4.heap[w3.heap.size]?=some (.cells #[.int .u64 0,.int .u64 0,.int .u64 0,.int .u64 0] 23 (0,0)):=by
             refine keep ?_ hb4
             exact alloc_new w3 _
           obtain⟨⟨k0,k1,k2,k3⟩,kf0,kf1,kf2,kf3⟩:=fourV O4)))
  all_goals
   rename_i hH
   clear hH
   have xA:=RA.out
   have xR:=RR.out
   have xW:=RB.out
   go_wp2_with fail
   go_meet
   case rel =>
    refine⟨_,rfl,?_,?_,?_,?_⟩
    all_goals
     (focus ((repeat (first | (with_reducible assumption) | (with_reducible apply isA_set) | (with_reducible exact isA_new _ _ _) | (with_reducible exact isA_a4 _ _ _ _) | (with_reducible exact isA_a2 _ _ _ _) | (with_reducible exact isA_a1 _ _ _ _) | (with_reducible apply IsA.far) | (with_reducible apply IsA.alloc) | (with_reducible apply IsA.drew) | (with_reducible apply isA_calls) | (with_reducible apply b_set4) | (with_reducible apply b_alloc) | (with_reducible apply b_drew) | (with_reducible apply b_callsS) | (with_reducible exact alloc_new _ _) | (with_reducible apply alloc_keep) | (with_reducible apply far_keep) | exact Nat.le_refl _ | omega | (simp;done) | (simp;omega)));done))
 case rest =>
  obtain⟨b4,rfl,r4,ra,rr,rb⟩:=hcut
  clear RA RR RB hXs KT1 KP1
  obtain⟨⟨p0,p1,p2,p3⟩,_⟩:=fourV r4
  have D0:=fun d os=>cell_regrown p0 d os
  have D1:=fun d os=>cell_regrown p1 d os
  have D2:=fun d os=>cell_regrown p2 d os
  have D3:=fun d os=>cell_regrown p3 d os
  have RA:=Lib.hid ra
  have RR:=Lib.hid rr
  have RB:=Lib.hid rb
  clear p0 p1 p2 p3 r4 ra rr rb
  go_wp2_with fail
  go_cut [16] (fun s16 wd'=>s16=.bool (!(rokN a))∧IsA wd' w.heap.size a 23∧IsA wd' (w.heap.size+1) 0 23∧Below w.heap.size w wd')
  case first =>
   by_cases g0:X0=x0
   ·have d0:decide (X0=x0)=true:=decide_eq_true g0
    have kz0':=fun w=>(kz0 w).trans (by rw[d0])
    clear kz0 kz1 g0
    refine wp_region_quiet_below HMIX.out (by kernel_rfl) ?_
    repeat (go_big_quiet_step (first
     | (go_at_call_of 68 (Value.int .u64 0);exact Calls.regrown_of (S0.out _))
     | (go_at_call_of 68 (Value.int .u64 1);exact Calls.regrown_of (S1.out _))))
    refine wpQuiet_nil ?_
    intro _ hw'
    obtain⟨⟨nq1,os1⟩,hw''⟩:=hw'
    subst hw''
    go_wp2_with fail
    go_meet
    case rel=>exact⟨by rw[HROK.out,d0];rfl,isA_calls (below_regrown wc nq1 os1) RA.out (Nat.le_refl _),isA_calls (below_regrown wc nq1 os1) RR.out (Nat.le_refl _),b_callsS (below_regrown wc nq1 os1) RB.out (Nat.le_refl _)⟩
   ·have d0:decide (X0=x0)=false:=decide_eq_false g0
    have kz0':=fun w=>(kz0 w).trans (by rw[d0])
    clear kz0 g0
    by_cases g1:X0=x1
    ·have d1:decide (X0=x1)=true:=decide_eq_true g1
     have kz1':=fun w=>(kz1 w).trans (by rw[d1])
     clear kz1 g1
     refine wp_region_quiet_below HMIX.out (by kernel_rfl) ?_
     repeat (go_big_quiet_step (first
      | (go_at_call_of 68 (Value.int .u64 0);exact Calls.regrown_of (S0.out _))
      | (go_at_call_of 68 (Value.int .u64 1);exact Calls.regrown_of (S1.out _))))
     refine wpQuiet_nil ?_
     intro _ hw'
     obtain⟨⟨nq1,os1⟩,hw''⟩:=hw'
     subst hw''
     go_wp2_with fail
     go_meet
     case rel=>exact⟨by rw[HROK.out,d0,d1];rfl,isA_calls (below_regrown wc nq1 os1) RA.out (Nat.le_refl _),isA_calls (below_regrown wc nq1 os1) RR.out (Nat.le_refl _),b_callsS (below_regrown wc nq1 os1) RB.out (Nat.le_refl _)⟩
    ·have d1:decide (X0=x1)=false:=decide_eq_false g1
     have kz1':=fun w=>(kz1 w).trans (by rw[d1])
     clear kz1 g1
     refine wp_region_quiet_below HMIX.out (by kernel_rfl) ?_
     repeat (go_big_quiet_step (first
      | (go_at_call_of 68 (Value.int .u64 0);exact Calls.regrown_of (S0.out _))
      | (go_at_call_of 68 (Value.int .u64 1);exact Calls.regrown_of (S1.out _))))
     refine wpQuiet_nil ?_
     intro _ hw'
     obtain⟨⟨nq1,os1⟩,hw''⟩:=hw'
     subst hw''
     go_wp2_with fail
     go_meet
     case rel=>exact⟨by rw[HROK.out,d0,d1];rfl,isA_calls (below_regrown wc nq1 os1) RA.out (Nat.le_refl _),isA_calls (below_regrown wc nq1 os1) RR.out (Nat.le_refl _),b_callsS (below_regrown wc nq1 os1) RB.out (Nat.le_refl _)⟩
  case rest =>
   obtain⟨rfl,ra,rr,rb⟩:=hcut
   clear RA RR RB D0 D1 D2 D3 kz0 kz1 S1 HROK
   by_cases hok:rokN a=true
   ·rw[hok]
    have HOK:=Lib.hid hok
    have RA:=Lib.hid ra
    have RR:=Lib.hid rr
    have RB:=Lib.hid rb
    have hXs:w.heap.size+1<wc.heap.size:=lt_blk rr
    clear hok ra rr rb
    go_wp2_with fail
    go_cut [5] (fun s5 wc=>∃ b5,s5=.pointer (some ⟨b5,0,none⟩)∧IsA wc b5 r0 23∧IsA wc w.heap.size a 23∧IsA wc (w.heap.size+1) 0 23∧w.heap.size+1<b5∧Below w.heap.size w wc)
    case first =>
     have hC0:C4 wc w.heap.size a:=cells4 RA.out
     have hC:C4 wc w.heap.size a:=hC0
     have hCd:C4 wc.drew w.heap.size a:=hC0
     go_region_held3 (fun w'=>w'.cell? ⟨w.heap.size,0,none⟩=some (.int .u64 (wd a 0:Int))∧w'.cell? ⟨w.heap.size,1,none⟩=some (.int .u64 (wd a 1:Int))∧w'.cell? ⟨w.heap.size,2,none⟩=some (.int .u64 (wd a 2:Int))∧w'.cell? ⟨w.heap.size,3,none⟩=some (.int .u64 (wd a 3:Int))) (first | (with_reducible exact hCd) | (focus ((repeat (first | (with_reducible assumption) | (with_reducible apply C4.alloc) | (with_reducible apply C4.drew) | (with_reducible apply C4.far) | (with_reducible apply C4.calls) | exact Nat.le_refl _ | omega | (simp;done)));done))) (first
      | (go_at_call 127;go_must (refine (KT2.out _).mono ?_);rintro e w3 ⟨rfl,hb3⟩
         have hs3:=hb3.size
         (try simp at hs3)
         try (have N3:w3.heap[wc.heap.size]?=some (.cells #[.int .u64 0,.int .u64 0,.int .u64 0,.int .u64 0] 23 (0,0)):=by
                refine keep ?_ hb3
                exact alloc_new wc _
              obtain⟨⟨c0,c1,c2,c3⟩,cf0,cf1,cf2,cf3⟩:=fourV N3))
      | (go_at_call 126;go_must (refine (KP2.out _).mono ?_);rintro e w4 ⟨rfl,hb4⟩
         have hs4:=hb4.size
         (try simp at hs4)
         try (have N4:w4.heap[wc.heap.size]?=some (.cells #[.int .u64 0,.int .u64 0,.int .u64 0,.int .u64 0] 23 (0,0)):=keep N3 hb4
              obtain⟨⟨g0,g1,g2,g3⟩,gf0,gf1,gf2,gf3⟩:=fourV N4)
         try (have O4:w4.heap[w3.heap.size]?=some (.cells #[.int .u64 0,.int .u64 0,.int .u64 0,.int .u64 0] 23 (0,0)):=by
                refine keep ?_ hb4
                exact alloc_new w3 _
              obtain⟨⟨k0,k1,k2,k3⟩,kf0,kf1,kf2,kf3⟩:=fourV O4)))
     all_goals
      rename_i hH
      clear hH
      have xA:=RA.out
      have xR:=RR.out
      have xW:=RB.out
      go_wp2_with fail
      go_meet
      case rel =>
       refine⟨_,rfl,?_,?_,?_,?_,?_⟩
       all_goals
        (focus ((repeat (first | (with_reducible assumption) | (with_reducible apply isA_set) | (with_reducible exact isA_new _ _ _) | (with_reducible exact isA_a4 _ _ _ _) | (with_reducible exact isA_a2 _ _ _ _) | (with_reducible exact isA_a1 _ _ _ _) | (with_reducible apply IsA.far) | (with_reducible apply IsA.alloc) | (with_reducible apply IsA.drew) | (with_reducible apply isA_calls) | (with_reducible apply b_set4) | (with_reducible apply b_alloc) | (with_reducible apply b_drew) | (with_reducible apply b_callsS) | (with_reducible exact alloc_new _ _) | (with_reducible apply alloc_keep) | (with_reducible apply far_keep) | exact Nat.le_refl _ | omega | (simp;done) | (simp;omega)));done))
    case rest =>
     obtain⟨b5,rfl,r5,ra,rr,hb5,rb⟩:=hcut
     clear RA RR RB KT2 KP2 hXs
     obtain⟨⟨p0,p1,p2,p3⟩,_⟩:=fourV r5
     obtain⟨⟨q0,q1,q2,q3⟩,_⟩:=fourV ra
     have D0:=fun d os=>cell_regrown p0 d os
     have D1:=fun d os=>cell_regrown p1 d os
     have D2:=fun d os=>cell_regrown p2 d os
     have D3:=fun d os=>cell_regrown p3 d os
     have F0:=fun d os=>cell_regrown q0 d os
     have F1:=fun d os=>cell_regrown q1 d os
     have F2:=fun d os=>cell_regrown q2 d os
     have F3:=fun d os=>cell_regrown q3 d os
     have R5:=Lib.hid r5
     have RA:=Lib.hid ra
     have RR:=Lib.hid rr
     have RB:=Lib.hid rb
     clear p0 p1 p2 p3 q0 q1 q2 q3 r5 ra rr rb
     have KMM:=Lib.hid (fun w=>KMs.out r0 r0 w (of_PN HLT.out.2.1) (of_PN HLT.out.2.1))
     have hq0:r0*r0%PN<PN:=Nat.mod_lt _ PN_pos
     obtain⟨q0,hq0'⟩:∃ q0,r0*r0%PN=q0:=⟨_,rfl⟩
     rw[hq0'] at KMM H1 hq0
     have kq:=fun w=>eql_ar2 q0 a w (of_PN hq0) (of_PN HLT.out.1)
     simp only[numV_agg] at KMM
     clear hq0 hq0'
     go_wp2_with fail
     refine wp_region_quiet_below HMIX.out (by kernel_rfl) ?_
     repeat (go_big_quiet_step (first
      | (go_at_call 67;exact Calls.regrown_of (KMM.out _))))
     refine wpQuiet_nil ?_
     intro _ hw'
     obtain⟨⟨nq1,os1⟩,hw''⟩:=hw'
     subst hw''
     have r5:=isA_calls (below_regrown wc nq1 os1) R5.out (Nat.le_refl _)
     have RR':=Lib.hid (isA_calls (below_regrown wc nq1 os1) RR.out (Nat.le_refl _))
     have RB':=Lib.hid (b_callsS (below_regrown wc nq1 os1) RB.out (Nat.le_refl _))
     clear D0 D1 D2 D3 F0 F1 F2 F3 kq KMM R5 RA RR RB
     generalize Sort.grow (redrawn wc nq1) os1=V at *
     by_cases h0:q0=a
     ·rw[decide_eq_true h0]
      have hr1:=H1.out
      rw[if_pos h0] at hr1
      subst hr1
      have RO:=Lib.hid r5
      have RR:=RR'
      have RB:=RB'
      clear r5 RR' RB' h0 H1
      generalize V=U at *
      obtain⟨⟨s0,s1,s2,s3⟩,_⟩:=fourV RO.out
      have hbU:=RB.out.size
      have hlU:=lt_blk RO.out
      have hrU:=lt_blk RR.out
      have hod:=odd_wordR r1
      by_cases h2:r1%2=1
      ·have o1:(((wd r1 0:Int)%2) == 1)=true:=by
         have:(wd r1 0:Int)%2=1:=by omega
         rw[this];rfl
       have o2:((Int.tmod (wd r1 0:Int) 2) == 1)=true:=by
        rw[Int.tmod_eq_emod_of_nonneg (by omega)]
        exact o1
       have o3:(wd r1 0:Int)%2=1:=by omega
       have hR:=HRT.out
       rw[if_pos HOK.out,if_pos h2] at hR
       obtain⟨R,hRR⟩:∃ R,(0+PN-r1)%PN=R:=⟨_,rfl⟩
       have KSR:Hid (∀ w,Calls Tryz.prog 114 #[.agg #[.int .u64 (wd x0 0:Int),.int .u64 (wd x0 1:Int),.int .u64 (wd x0 2:Int),.int .u64 (wd x0 3:Int)],.agg #[.int .u64 (wd r1 0:Int),.int .u64 (wd r1 1:Int),.int .u64 (wd r1 2:Int),.int .u64 (wd r1 3:Int)]] w fun e w'=>e=.returned (.agg #[.int .u64 (wd R 0:Int),.int .u64 (wd R 1:Int),.int .u64 (wd R 2:Int),.int .u64 (wd R 3:Int)])∧Below w.heap.size w w'):=fun w=>by
        have h:=KS0.out w
        rw[hRR] at h
        exact h
       rw[hRR] at hR
       have HR:=Lib.hid hR
       clear hod h2 hR hRR
       go_wp2_with fail
       obtain⟨⟨p0,p1,p2,p3⟩,g0,g1,g2,g3⟩:=fourV RO.out
       go_region_law (first
        | (go_simp;go_at_call 68;go_must (refine (S0.out _).mono ?_);rintro e w7 ⟨rfl,hb7⟩
           have ro7:=isA_calls hb7 RO.out.drew (Nat.le_refl _)
           obtain⟨⟨k0,k1,k2,k3⟩,f0,f1,f2,f3⟩:=fourV ro7)
        | (go_simp;go_at_call 114;go_must (refine (KSR.out _).mono ?_);rintro e w8 ⟨rfl,hb8⟩
           have ro8:=isA_calls hb8 ro7 (Nat.le_refl _)
           obtain⟨⟨m0,m1,m2,m3⟩,h0,h1,h2,h3⟩:=fourV ro8))
       all_goals
        have hz7:U.heap.size≤w7.heap.size:=hb7.size
        have hz8:=hb8.size
        have ro9:=isA_set (n:=R) ro8
        have rr9:=isA_zero' ((isA_calls hb8 (isA_calls hb7 RR.out.drew (Nat.le_refl _)) (Nat.le_refl _)).far (c:=b5) (v0:=.int .u64 (wd R 0:Int)) (v1:=.int .u64 (wd R 1:Int)) (v2:=.int .u64 (wd R 2:Int)) (v3:=.int .u64 (wd R 3:Int)) (by omega))
        have rb9:=b_set4 (b_callsS hb8 (b_callsS hb7 (b_drew RB.out) (Nat.le_refl _)) (Nat.le_refl _)) (v0:=.int .u64 (wd R 0:Int)) (v1:=.int .u64 (wd R 1:Int)) (v2:=.int .u64 (wd R 2:Int)) (v3:=.int .u64 (wd R 3:Int)) (b:=b5) (by omega)
        clear RO RR RB hb7 hb8 ro7 ro8 p0 p1 p2 p3 g0 g1 g2 g3 k0 k1 k2 k3 f0 f1 f2 f3 m0 m1 m2 m3 h0 h1 h2 h3 s0 s1 s2 s3
        generalize (((w8.setCell ⟨b5,0,none⟩ (.int .u64 (wd R 0:Int))).setCell ⟨b5,1,none⟩ (.int .u64 (wd R 1:Int))).setCell ⟨b5,2,none⟩ (.int .u64 (wd R 2:Int))).setCell ⟨b5,3,none⟩ (.int .u64 (wd R 3:Int))=Y9 at *
        obtain⟨⟨p0,p1,p2,p3⟩,_⟩:=fourV ro9
        obtain⟨⟨d0,d1,d2,d3⟩,e0,e1,e2,e3⟩:=fourV rr9
        have KLd:=Lib.hid (load_arr (isA_set (n:=R) rr9))
        have BR:=Lib.hid (b_set4 rb9 (v0:=.int .u64 (wd R 0:Int)) (v1:=.int .u64 (wd R 1:Int)) (v2:=.int .u64 (wd R 2:Int)) (v3:=.int .u64 (wd R 3:Int)) (b:=w.heap.size+1) (by omega))
        clear ro9 rr9 rb9
        go_wp2_with fail
        exact bodyPost_ret (results_arr_tmp Tryz.results70 (by rfl) (by rfl) KLd.out) rfl ⟨by rw[HR.out,HOK.out];rfl,BR.out⟩
      ·have o3:(wd r1 0:Int)%2=0:=by omega
       have o1:(((wd r1 0:Int)%2) == 1)=false:=by rw[o3];rfl
       have o2:((Int.tmod (wd r1 0:Int) 2) == 1)=false:=by
        rw[Int.tmod_eq_emod_of_nonneg (by omega)]
        exact o1
       have hR:=HRT.out
       rw[if_pos HOK.out,if_neg h2] at hR
       have HR:=Lib.hid hR
       have rr9:=isA_zero' RR.out
       obtain⟨⟨d0,d1,d2,d3⟩,e0,e1,e2,e3⟩:=fourV rr9
       have KLd:=Lib.hid (load_arr (isA_set (n:=r1) rr9))
       have BR:=Lib.hid (b_set4 RB.out (v0:=.int .u64 (wd r1 0:Int)) (v1:=.int .u64 (wd r1 1:Int)) (v2:=.int .u64 (wd r1 2:Int)) (v3:=.int .u64 (wd r1 3:Int)) (b:=w.heap.size+1) (by omega))
       clear hod h2 hR rr9 RO RR RB
       go_wp2_with fail
       exact bodyPost_ret (results_arr_tmp Tryz.results70 (by rfl) (by rfl) KLd.out) rfl ⟨by rw[HR.out,HOK.out];rfl,BR.out⟩
     ·rw[decide_eq_false h0]
      have hr1:=H1.out
      rw[if_neg h0] at hr1
      have KMR:=Lib.hid (fun w=>KMs.out r0 i w (of_PN HLT.out.2.1) (of_PN HLT.out.2.2.2))
      rw[← hr1] at KMR
      simp only[numV_agg] at KMR
      have RO:=Lib.hid r5
      have RR:=RR'
      have RB:=RB'
      have hbV:=RB'.out.size
      obtain⟨⟨p0,p1,p2,p3⟩,g0,g1,g2,g3⟩:=fourV r5
      clear r5 RR' RB' h0 H1 hr1
      go_wp2_with fail
      go_cut [] (fun wc=>IsA wc b5 r1 23∧IsA wc (w.heap.size+1) 0 23∧Below w.heap.size w wc)
      case first =>
       go_region_law (first
        | (go_simp;go_at_call 68;go_must (refine (S2.out _).mono ?_);rintro e w4 ⟨rfl,hb4⟩
           have ro4:=isA_calls hb4 RO.out.drew (Nat.le_refl _)
           obtain⟨⟨k0,k1,k2,k3⟩,f0,f1,f2,f3⟩:=fourV ro4)
        | (go_simp;go_at_call 127;go_must (refine (KT3.out _).mono ?_);rintro e w5 ⟨rfl,hb5'⟩
           have ro5:=isA_calls hb5' ro4 (Nat.le_refl _)
           obtain⟨⟨m0,m1,m2,m3⟩,h0,h1,h2,h3⟩:=fourV ro5)
        | (go_simp;go_at_call 126;go_must (refine (KP3.out _).mono ?_);rintro e w6 ⟨rfl,hb6⟩
           have ro6:=isA_calls hb6 ro5 (Nat.le_refl _)
           obtain⟨⟨n0,n1,n2,n3⟩,o0,o1,o2,o3⟩:=fourV ro6)
        | (go_simp;go_at_call 67;go_must (refine (KMR.out _).mono ?_);rintro e w7 ⟨rfl,hb7⟩
           have ro7:=isA_calls hb7 ro6 (Nat.le_refl _)
           obtain⟨⟨z0,z1,z2,z3⟩,y0,y1,y2,y3⟩:=fourV ro7))
       all_goals
        have hb47:=b_callsS hb7 (b_callsS hb6 (b_callsS hb5' hb4 (Nat.le_refl _)) (Nat.le_refl _)) (Nat.le_refl _)
        have RO':=Lib.hid (isA_set (n:=r1) ro7)
        have RR':=Lib.hid ((isA_calls hb47 RR.out.drew (Nat.le_refl _)).far (c:=b5) (v0:=.int .u64 (wd r1 0:Int)) (v1:=.int .u64 (wd r1 1:Int)) (v2:=.int .u64 (wd r1 2:Int)) (v3:=.int .u64 (wd r1 3:Int)) (by omega))
        have RB':=Lib.hid (b_set4 (b_callsS hb47 (b_drew RB.out) (Nat.le_refl _)) (v0:=.int .u64 (wd r1 0:Int)) (v1:=.int .u64 (wd r1 1:Int)) (v2:=.int .u64 (wd r1 2:Int)) (v3:=.int .u64 (wd r1 3:Int)) (b:=b5) (by omega))
        go_wp2_with fail
        go_meet
        case rel=>exact⟨RO'.out,RR'.out,RB'.out⟩
      case rest =>
       clear RO RR RB p0 p1 p2 p3 g0 g1 g2 g3 KMR KT3 KP3 S2
       obtain⟨ro,rr,rb⟩:=hcut
       have RO:=Lib.hid ro
       have RR:=Lib.hid rr
       have RB:=Lib.hid rb
       clear ro rr rb
       generalize wc=U at *
       obtain⟨⟨s0,s1,s2,s3⟩,_⟩:=fourV RO.out
       have hbU:=RB.out.size
       have hlU:=lt_blk RO.out
       have hrU:=lt_blk RR.out
       have hod:=odd_wordR r1
       by_cases h2:r1%2=1
       ·have o1:(((wd r1 0:Int)%2) == 1)=true:=by
          have:(wd r1 0:Int)%2=1:=by omega
          rw[this];rfl
        have o2:((Int.tmod (wd r1 0:Int) 2) == 1)=true:=by
         rw[Int.tmod_eq_emod_of_nonneg (by omega)]
         exact o1
        have o3:(wd r1 0:Int)%2=1:=by omega
        have hR:=HRT.out
        rw[if_pos HOK.out,if_pos h2] at hR
        obtain⟨R,hRR⟩:∃ R,(0+PN-r1)%PN=R:=⟨_,rfl⟩
        have KSR:Hid (∀ w,Calls Tryz.prog 114 #[.agg #[.int .u64 (wd x0 0:Int),.int .u64 (wd x0 1:Int),.int .u64 (wd x0 2:Int),.int .u64 (wd x0 3:Int)],.agg #[.int .u64 (wd r1 0:Int),.int .u64 (wd r1 1:Int),.int .u64 (wd r1 2:Int),.int .u64 (wd r1 3:Int)]] w fun e w'=>e=.returned (.agg #[.int .u64 (wd R 0:Int),.int .u64 (wd R 1:Int),.int .u64 (wd R 2:Int),.int .u64 (wd R 3:Int)])∧Below w.heap.size w w'):=fun w=>by
         have h:=KS0.out w
         rw[hRR] at h
         exact h
        rw[hRR] at hR
        have HR:=Lib.hid hR
        clear hod h2 hR hRR
        go_wp2_with fail
        obtain⟨⟨p0,p1,p2,p3⟩,g0,g1,g2,g3⟩:=fourV RO.out
        go_region_law (first
         | (go_simp;go_at_call 68;go_must (refine (S0.out _).mono ?_);rintro e w7 ⟨rfl,hb7⟩
            have ro7:=isA_calls hb7 RO.out.drew (Nat.le_refl _)
            obtain⟨⟨k0,k1,k2,k3⟩,f0,f1,f2,f3⟩:=fourV ro7)
         | (go_simp;go_at_call 114;go_must (refine (KSR.out _).mono ?_);rintro e w8 ⟨rfl,hb8⟩
            have ro8:=isA_calls hb8 ro7 (Nat.le_refl _)
            obtain⟨⟨m0,m1,m2,m3⟩,h0,h1,h2,h3⟩:=fourV ro8))
        all_goals
         have hz7:U.heap.size≤w7.heap.size:=hb7.size
         have hz8:=hb8.size
         have ro9:=isA_set (n:=R) ro8
         have rr9:=isA_zero' ((isA_calls hb8 (isA_calls hb7 RR.out.drew (Nat.le_refl _)) (Nat.le_refl _)).far (c:=b5) (v0:=.int .u64 (wd R 0:Int)) (v1:=.int .u64 (wd R 1:Int)) (v2:=.int .u64 (wd R 2:Int)) (v3:=.int .u64 (wd R 3:Int)) (by omega))
         have rb9:=b_set4 (b_callsS hb8 (b_callsS hb7 (b_drew RB.out) (Nat.le_refl _)) (Nat.le_refl _)) (v0:=.int .u64 (wd R 0:Int)) (v1:=.int .u64 (wd R 1:Int)) (v2:=.int .u64 (wd R 2:Int)) (v3:=.int .u64 (wd R 3:Int)) (b:=b5) (by omega)
         clear RO RR RB hb7 hb8 ro7 ro8 p0 p1 p2 p3 g0 g1 g2 g3 k0 k1 k2 k3 f0 f1 f2 f3 m0 m1 m2 m3 h0 h1 h2 h3 s0 s1 s2 s3
         generalize (((w8.setCell ⟨b5,0,none⟩ (.int .u64 (wd R 0:Int))).setCell ⟨b5,1,none⟩ (.int .u64 (wd R 1:Int))).setCell ⟨b5,2,none⟩ (.int .u64 (wd R 2:Int))).setCell ⟨b5,3,none⟩ (.int .u64 (wd R 3:Int))=Y9 at *
         obtain⟨⟨p0,p1,p2,p3⟩,_⟩:=fourV ro9
         obtain⟨⟨d0,d1,d2,d3⟩,e0,e1,e2,e3⟩:=fourV rr9
         have KLd:=Lib.hid (load_arr (isA_set (n:=R) rr9))
         have BR:=Lib.hid (b_set4 rb9 (v0:=.int .u64 (wd R 0:Int)) (v1:=.int .u64 (wd R 1:Int)) (v2:=.int .u64 (wd R 2:Int)) (v3:=.int .u64 (wd R 3:Int)) (b:=w.heap.size+1) (by omega))
         clear ro9 rr9 rb9
         go_wp2_with fail
         exact bodyPost_ret (results_arr_tmp Tryz.results70 (by rfl) (by rfl) KLd.out) rfl ⟨by rw[HR.out,HOK.out];rfl,BR.out⟩
       ·have o3:(wd r1 0:Int)%2=0:=by omega
        have o1:(((wd r1 0:Int)%2) == 1)=false:=by rw[o3];rfl
        have o2:((Int.tmod (wd r1 0:Int) 2) == 1)=false:=by
         rw[Int.tmod_eq_emod_of_nonneg (by omega)]
         exact o1
        have hR:=HRT.out
        rw[if_pos HOK.out,if_neg h2] at hR
        have HR:=Lib.hid hR
        have rr9:=isA_zero' RR.out
        obtain⟨⟨d0,d1,d2,d3⟩,e0,e1,e2,e3⟩:=fourV rr9
        have KLd:=Lib.hid (load_arr (isA_set (n:=r1) rr9))
        have BR:=Lib.hid (b_set4 RB.out (v0:=.int .u64 (wd r1 0:Int)) (v1:=.int .u64 (wd r1 1:Int)) (v2:=.int .u64 (wd r1 2:Int)) (v3:=.int .u64 (wd r1 3:Int)) (b:=w.heap.size+1) (by omega))
        clear hod h2 hR rr9 RO RR RB
        go_wp2_with fail
        exact bodyPost_ret (results_arr_tmp Tryz.results70 (by rfl) (by rfl) KLd.out) rfl ⟨by rw[HR.out,HOK.out];rfl,BR.out⟩
   ·have hok':rokN a=false:=by simpa using hok
    rw[hok']
    have hR:=HRT.out
    rw[if_neg hok] at hR
    have HR:=Lib.hid (And.intro hR hok')
    have rr9:=isA_zero' rr
    obtain⟨⟨d0,d1,d2,d3⟩,e0,e1,e2,e3⟩:=fourV rr9
    have hbU:=rb.size
    have KLd:=Lib.hid (load_arr (isA_zero (set4_row (v0:=.int .u64 0) (v1:=.int .u64 0) (v2:=.int .u64 0) (v3:=.int .u64 0) rr9)))
    have BR:=Lib.hid (b_set4 rb (v0:=.int .u64 0) (v1:=.int .u64 0) (v2:=.int .u64 0) (v3:=.int .u64 0) (b:=w.heap.size+1) (by omega))
    clear hok hok' hR rr9 ra rr rb
    go_wp2_with fail
    exact bodyPost_ret (results_arr_tmp Tryz.results70 (by rfl) (by rfl) KLd.out) rfl ⟨by rw[HR.out.1,HR.out.2];rfl,BR.out⟩
theorem e2_is:2*E2=PN-1:=by decide +kernel
theorem p3_is:8*P3=PN+3:=by decide +kernel
theorem p4_is:4*P4=PN-1:=by decide +kernel
theorem i_sq:iV*iV%PN=PN-1:=by decide +kernel
theorem PN_odd:PN%2=1:=by decide +kernel
theorem root_ok (a:Nat) (ha:a<PN):r1N iV a*r1N iV a%PN=a↔(a^E2%PN=0∨a^E2%PN=1) :=
 root_when a (r0N a) iV E2 P3 P4 ha e2_is p3_is p4_is rfl i_sq
theorem neg_square (r:Nat) (hr:r<PN):(0+PN-r)%PN*((0+PN-r)%PN)%PN=r*r%PN:=by
 rw[← Nat.mul_mod]
 obtain⟨d,hd⟩:∃ d,PN=r+d:=⟨PN-r,by omega⟩
 rw[show 0+PN-r=d by omega]
 have e:d*d+PN*r=r*r+PN*d:=by
  rw[hd,Nat.add_mul,Nat.add_mul,Nat.mul_comm d r]
  omega
 have h1:(d*d+PN*r)%PN=d*d%PN:=Nat.add_mul_mod_self_left _ _ _
 have h2:(r*r+PN*d)%PN=r*r%PN:=Nat.add_mul_mod_self_left _ _ _
 rw[← h1,e,h2]
theorem root_sq (a:Nat) (h:okN iV a=true):rootN iV a*rootN iV a%PN=a∧rootN iV a%2=0:=by
 have h1:r1N iV a*r1N iV a%PN=a:=by
  unfold okN at h
  exact of_decide_eq_true h
 have hl:=r1N_lt iV a
 unfold rootN
 rw[if_pos h1]
 generalize r1N iV a=r at *
 split
 ·rename_i ho
  refine⟨by rw[neg_square r hl];exact h1,?_⟩
  have hp:=PN_odd
  rw[Nat.zero_add,Nat.mod_eq_of_lt (show PN-r<PN by omega)]
  omega
 ·rename_i ho
  exact⟨h1,by omega⟩
theorem rootN_lt (a:Nat):rootN iV a<PN:=by
 unfold rootN
 split
 ·split
  ·exact Nat.mod_lt _ PN_pos
  ·exact r1N_lt iV a
 ·exact PN_pos
theorem square_ok (x:Nat):okN iV (x*x%PN)=true:=by
 unfold okN
 refine decide_eq_true ((root_ok (x*x%PN) (Nat.mod_lt _ PN_pos)).2 ?_)
 have e:(x*x%PN)^E2%PN=x^(E2+E2)%PN:=by
  rw[← Nat.pow_mod,← Nat.pow_two,← Nat.pow_mul,show 2*E2=E2+E2 by omega]
 rw[e]
 have h2:=e2_is
 have h3:=PN_ge
 exact pow01 x (E2+E2) (by omega) (by omega)
open Go.RowKit Go.Sort
theorem rok_same (a:Nat) (ha:a<PN):rokN a=okN iV a:=by
 have h:=root_ok a ha
 unfold rokN okN
 by_cases hr:r1N iV a*r1N iV a%PN=a
 ·rw[decide_eq_true hr]
  rcases h.1 hr with h0 | h0
  ·rw[decide_eq_true h0,Bool.true_or]
  ·rw[decide_eq_true h0,Bool.or_true]
 ·rw[decide_eq_false hr]
  have h0:¬ a^E2%PN=0:=fun e=>hr (h.2 (.inl e))
  have h1:¬ a^E2%PN=1:=fun e=>hr (h.2 (.inr e))
  rw[decide_eq_false h0,decide_eq_false h1]
  rfl
theorem rroot_same (a:Nat) (ha:a<PN):rrootN iV a=rootN iV a:=by
 have h:=rok_same a ha
 unfold rrootN rootN
 rw[h]
 by_cases hr:r1N iV a*r1N iV a%PN=a
 ·have ho:okN iV a=true:=by unfold okN;exact decide_eq_true hr
  rw[if_pos ho,if_pos hr]
 ·have ho:okN iV a=false:=by unfold okN;exact decide_eq_false hr
  rw[ho,if_neg hr]
  rfl
def rpL (X Y Z:Nat):List Value:=[.int .u64 (wd X 0:Int),.int .u64 (wd X 1:Int),.int .u64 (wd X 2:Int),.int .u64 (wd X 3:Int),.int .u64 (wd Y 0:Int),.int .u64 (wd Y 1:Int),.int .u64 (wd Y 2:Int),.int .u64 (wd Y 3:Int),.int .u64 (wd Z 0:Int),.int .u64 (wd Z 1:Int),.int .u64 (wd Z 2:Int),.int .u64 (wd Z 3:Int)]
def rpV (X Y Z:Nat):Value:=.agg (rpL X Y Z).toArray
def z12:Array Value:=#[.int .u64 0,.int .u64 0,.int .u64 0,.int .u64 0,.int .u64 0,.int .u64 0,.int .u64 0,.int .u64 0,.int .u64 0,.int .u64 0,.int .u64 0,.int .u64 0]
theorem one_rp (X Y Z:Nat):(rpL X Y Z).toArray.all (·.oneCell')=true:=by simp[rpL,Value.oneCell']
theorem rowRp:RowTy Tryz.prog 55 12:=⟨.inl ⟨_,Tryz.underlying55⟩,by kernel_rfl⟩
theorem rowNu:RowTy Tryz.prog 23 4:=⟨.inr ⟨_,_,Tryz.underlying23⟩,by kernel_rfl⟩
theorem bx_Rp (X Y Z:Nat) (W:World):(Instr.box 55 (rpV X Y Z)).run Tryz.prog W=.ok (.pointer (some ⟨W.heap.size,0,none⟩)) (W.alloc (.cells (rpL X Y Z).toArray 55 (0,0))):=by
 unfold rpV rpL
 go_simp
theorem bx_Nu (a:Nat) (W:World):(Instr.box 23 (numV a)).run Tryz.prog W=.ok (.pointer (some ⟨W.heap.size,0,none⟩)) (W.alloc (.cells (elR a) 23 (0,0))):=by
 unfold numV elR
 go_simp
theorem al_Rp (W:World):(Instr.alloc 55 true (.tuple #[])).run Tryz.prog W=.ok (.pointer (some ⟨W.heap.size,0,none⟩)) (W.alloc (.cells z12 55 (0,0))):=by
 unfold z12
 go_simp
theorem al_Nu (W:World):(Instr.alloc 23 true (.tuple #[])).run Tryz.prog W=.ok (.pointer (some ⟨W.heap.size,0,none⟩)) (W.alloc (.cells z4 23 (0,0))):=by
 unfold z4
 go_simp
theorem bdR (a b c:Nat) (W:World):(Instr.build 55 #[(0,numV a),(1,numV b),(2,numV c)]).run Tryz.prog W=.ok (rpV a b c) W:=by
 unfold numV rpV rpL
 go_simp
theorem bdR0 (b c:Nat) (W:World):(Instr.build 55 #[(1,numV b),(2,numV c)]).run Tryz.prog W=.ok (rpV 0 b c) W:=by
 have h:∀ i,wd 0 i=0:=fun i=>by simp[wd]
 unfold numV rpV rpL
 rw[h,h,h,h]
 go_simp
theorem fa_R0 (b:Nat) (W:World):(Instr.fieldAt 55 (.pointer (some ⟨b,0,none⟩)) 0).run Tryz.prog W=.ok (.pointer (some ⟨b,0,none⟩)) W:=by
 go_simp
theorem fa_R1 (b:Nat) (W:World):(Instr.fieldAt 55 (.pointer (some ⟨b,0,none⟩)) 1).run Tryz.prog W=.ok (.pointer (some ⟨b,4,none⟩)) W:=by
 go_simp
theorem fa_R2 (b:Nat) (W:World):(Instr.fieldAt 55 (.pointer (some ⟨b,0,none⟩)) 2).run Tryz.prog W=.ok (.pointer (some ⟨b,8,none⟩)) W:=by
 go_simp
theorem rsmall' (a:Nat) (ha:a<18446744073709551616) (w:World):Calls Tryz.prog 68 #[.int .u64 (a:Int)] w fun e w'=>e=.returned (numV a)∧Below w.heap.size w w':=rsmallp_any a w ha
theorem rmul' (a b:Nat) (w:World) (ha:a<PN) (hb:b<PN):Calls Tryz.prog 67 #[numV a,numV b] w fun e w'=>e=.returned (numV (a*b%PN))∧Below w.heap.size w w':=rmulp_any a b w (of_PN ha) (of_PN hb)
theorem radd' (a b:Nat) (w:World) (ha:a<PN) (hb:b<PN):Calls Tryz.prog 128 #[numV a,numV b] w fun e w'=>e=.returned (numV ((a+b)%PN))∧Below w.heap.size w w':=raddp_any a b w (of_PN ha) (of_PN hb)
theorem rsub' (a b:Nat) (w:World) (ha:a<PN) (hb:b<PN):Calls Tryz.prog 114 #[numV a,numV b] w fun e w'=>e=.returned (numV ((a+PN-b)%PN))∧Below w.heap.size w w':=rsubp_any a b w (of_PN ha) (of_PN hb) (Nat.le_trans (Nat.le_of_lt hb) (Nat.le_add_left _ _))
theorem rinv' (a:Nat) (w:World) (ha:a<PN):Calls Tryz.prog 69 #[numV a] w fun e w'=>e=.returned (numV (IV a))∧Below w.heap.size w w':=rinv_any a w ha
theorem rroot' (a:Nat) (w:World) (ha:a<PN):Calls Tryz.prog 70 #[numV a] w fun e w'=>e=.returned (.tuple #[numV (rootN iV a),.bool (okN iV a)])∧Below w.heap.size w w':=by
 have h:=rroot_any a w ha
 rw[rok_same a ha,rroot_same a ha] at h
 exact h
theorem proot' (a:Nat) (w:World) (ha:a<PN):Calls Tryz.prog 79 #[numV a] w fun e w'=>e=.returned (.tuple #[numV (rootN iV a),.bool (okN iV a)])∧Below w.heap.size w w':=proot_any iV iV_lt iV_is a w ha
theorem rootN_below (a:Nat):rootN iV a<PN:=rootN_lt a
theorem inj_le (n m:Nat) (f:Nat→Nat) (hf:∀ i,i<n→f i<m) (hi:∀ i j,i<n→j<n→f i=f j→i=j):n≤m:=by
 apply Nat.le_of_not_lt
 intro hlt
 obtain⟨i,h1,h2⟩:=pigeons m f (fun i h=>hf i (by omega)) (fun i j h1 h2 e=>hi i j (by omega) (by omega) e) (f m) (hf m hlt)
 have:=hi i m (by omega) hlt h2
 omega
theorem pow_one_times (b g m k:Nat) (hg:1<g) (h:b^m%g=1):b^(m*k)%g=1:=by
 rw[Nat.pow_mul,Nat.pow_mod,h,Nat.one_pow]
 exact Nat.mod_eq_of_lt hg
theorem pow_gcd (b g:Nat) (hg:1<g) (m n:Nat):b^m%g=1→b^n%g=1→b^Nat.gcd m n%g=1:=by
 refine Nat.gcd.induction (P:=fun m n=>b^m%g=1→b^n%g=1→b^Nat.gcd m n%g=1) m n ?_ ?_
 ·intro n _ hn
  rw[Nat.gcd_zero_left]
  exact hn
 ·intro m n hm ih h1 h2
  rw[Nat.gcd_rec]
  refine ih ?_ h1
  have e:b^n=b^(m*(n/m))*b^(n%m):=by rw[← Nat.pow_add,Nat.div_add_mod]
  rw[e,Nat.mul_mod,pow_one_times b g m (n/m) hg h1,Nat.one_mul,Nat.mod_mod] at h2
  exact h2
theorem gcd_prime (k F:Nat) (hF:PrimeN F) (h0:0<k) (hk:k<F):Nat.gcd k F=1:=by
 obtain⟨d,hd⟩:=Nat.gcd_dvd_right k F
 have hpos:0<F:=by omega
 have hdv:F ∣ Nat.gcd k F*d:=⟨1,by rw[Nat.mul_one];exact hd.symm⟩
 rcases hF.2 _ _ hdv with h | h
 ·have h1:=Nat.le_of_dvd (Nat.gcd_pos_of_pos_left F h0) h
  have h2:=Nat.le_of_dvd h0 (Nat.gcd_dvd_left k F)
  omega
 ·have hd0:0<d:=by
    apply Nat.pos_of_ne_zero
    rintro rfl
    rw[Nat.mul_zero] at hd
    omega
  have h1:=Nat.le_of_dvd hd0 h
  have hg:=Nat.gcd_pos_of_pos_left F h0
  apply Nat.le_antisymm _ hg
  apply Nat.le_of_not_lt
  intro h2
  have h3:2*d≤Nat.gcd k F*d:=Nat.mul_le_mul_right d h2
  omega
/-- A number all of whose divisors are 1, or at least F. -/
theorem great_divs (N F e a u:Nat) (hF:PrimeN F) (he:F*e=N-1) (h1:a^(N-1)%N=1) (hu:(a^e%N+N-1)*u%N=1) (g:Nat) (hg:g ∣ N) (hg1:1<g) (hN:1<N):F≤g:=by
 obtain⟨b,hb⟩:∃ b,a^e=b:=⟨_,rfl⟩
 have hbF:b^F%g=1:=by
  rw[← hb,← Nat.pow_mul,Nat.mul_comm,he,← Nat.mod_mod_of_dvd _ hg,h1]
  exact Nat.mod_eq_of_lt hg1
 have hb1:b%g≠1:=fun h=>by
  have h2:(b%N+N-1)%g=0:=by
   obtain⟨c,hc⟩:=hg
   have h3:(b%N)%g=1:=by rw[Nat.mod_mod_of_dvd _ ⟨c,hc⟩];exact h
   have h4:1≤b%N:=by
    apply Nat.pos_of_ne_zero
    intro h0
    rw[h0,Nat.zero_mod] at h3
    omega
   have h5:b%N+N-1=(b%N-1)+g*c:=by omega
   rw[h5,Nat.add_mul_mod_self_left]
   have h6:=Nat.div_add_mod (b%N) g
   rw[h3] at h6
   rw[show b%N-1=g*(b%N/g) by omega,Nat.mul_mod_right]
  have h7:(b%N+N-1)*u%N%g=0:=by rw[Nat.mod_mod_of_dvd _ hg,Nat.mul_mod,h2,Nat.zero_mul,Nat.zero_mod]
  rw[← hb] at h7
  rw[hu,Nat.mod_eq_of_lt hg1] at h7
  omega
 refine inj_le F g (fun i=>b^i%g) (fun i _=>Nat.mod_lt _ (by omega)) ?_
 have key:∀ i j,i<j→j<F→b^i%g=b^j%g→False:=fun i j hij hj h=>by
  have h2:b^(j-i)%g=1:=by
   have h3:b^i*b^(F-i)%g=b^j*b^(F-i)%g:=by rw[Nat.mul_mod,h,← Nat.mul_mod]
   rw[← Nat.pow_add,← Nat.pow_add,show i+(F-i)=F by omega,hbF,show j+(F-i)=(j-i)+F by omega,Nat.pow_add,Nat.mul_mod,hbF,Nat.mul_one,Nat.mod_mod] at h3
   exact h3.symm
  have h4:=pow_gcd b g hg1 (j-i) F h2 hbF
  rw[gcd_prime (j-i) F hF (by omega) (by omega),Nat.pow_one] at h4
  exact hb1 h4
 intro i j hi hj h
 rcases Nat.lt_trichotomy i j with h1 | h1 | h1
 ·exact (key i j h1 hj h).elim
 ·exact h1
 ·exact (key j i h1 hi h.symm).elim
def LN:Nat:=7237005577332262213973186563042994240857116359379907606001950938285454250989
def eN:Nat:=36511546405176775671712865833542457120274604
theorem pow_ofR (n f e b:Nat) (he:e<2^f):b^e%n=pm n f e b 1%n:=by
 have x:=pm_eq n f e b 1 he
 rw[Nat.one_mul] at x
 exact x.symm
/-- The sum by the document's definition, on numbers. -/
def addX (x1 y1 z1 x2 y2 z2:Nat):Nat:=z1*z2%PN*((x1*y2+y1*x2)%PN)%PN*((z1*z2%PN*(z1*z2%PN)%PN+PN-dN*(x1*x2%PN*(y1*y2%PN)%PN)%PN)%PN)%PN
def addY (x1 y1 z1 x2 y2 z2:Nat):Nat:=z1*z2%PN*((y1*y2+x1*x2)%PN)%PN*((z1*z2%PN*(z1*z2%PN)%PN+dN*(x1*x2%PN*(y1*y2%PN)%PN)%PN)%PN)%PN
def addZ (x1 y1 z1 x2 y2 z2:Nat):Nat:=(z1*z2%PN*(z1*z2%PN)%PN+PN-dN*(x1*x2%PN*(y1*y2%PN)%PN)%PN)%PN*((z1*z2%PN*(z1*z2%PN)%PN+dN*(x1*x2%PN*(y1*y2%PN)%PN)%PN)%PN)%PN
theorem addN_rep (x1 y1 z1 x2 y2 z2:Nat) (p q:Fp × Fp) (hp:On p) (hq:On q) (h1:Rep (fz x1) (fz y1) (fz z1) p) (h2:Rep (fz x2) (fz y2) (fz z2) q) :
    Rep (fz (addX x1 y1 z1 x2 y2 z2)) (fz (addY x1 y1 z1 x2 y2 z2)) (fz (addZ x1 y1 z1 x2 y2 z2)) (addE p q):=by
 have h:=rep_add (fz x1) (fz y1) (fz z1) (fz x2) (fz y2) (fz z2) p q hp hq h1 h2
 have hs:∀ a b:Nat,fz (a+PN-b%PN)=fz a-fz b:=fun a b=>by rw[fz_sub _ _ (Nat.le_of_lt (Nat.mod_lt _ PN_pos)),fz_mod]
 unfold addX addY addZ
 simp only[fz_mod,fz_mul,hs,fz_add]
 exact h
/-- So many times, from the lowest bit on: the first number is the one that is asked for. -/
def tmX:Nat→Nat→Nat→Nat→Nat→Nat→Nat→Nat→Nat × Nat × Nat
 | 0,_,_,_,_,X,Y,Z=>(X,Y,Z)
 | f+1,e,x,y,z,X,Y,Z=>bif Nat.beq (e%2) 1 then tmX f (e/2) (addX x y z x y z) (addY x y z x y z) (addZ x y z x y z) (addX X Y Z x y z) (addY X Y Z x y z) (addZ X Y Z x y z)
   else tmX f (e/2) (addX x y z x y z) (addY x y z x y z) (addZ x y z x y z) X Y Z
theorem times_two (p:Fp × Fp) (hp:On p) (n:Nat):timesE (2*n) p=timesE n (addE p p):=by
 rw[Nat.mul_comm,times_mul p hp 2 n]
 congr 1
 show addE (addE zeroE p) p=_
 rw[add_comm' zeroE p,add_zero' p hp]
theorem tm_rep:∀ (f e x y z X Y Z:Nat) (p q:Fp × Fp),e<2^f→On p→On q→Rep (fz x) (fz y) (fz z) p→Rep (fz X) (fz Y) (fz Z) q →
    Rep (fz (tmX f e x y z X Y Z).1) (fz (tmX f e x y z X Y Z).2.1) (fz (tmX f e x y z X Y Z).2.2) (addE q (timesE e p))
 | 0,e,x,y,z,X,Y,Z,p,q,he,hp,hq,_,h2=>by
   have:e=0:=by simp at he;omega
   subst this
   show Rep (fz X) (fz Y) (fz Z) (addE q zeroE)
   rw[add_zero' q hq]
   exact h2
 | f+1,e,x,y,z,X,Y,Z,p,q,he,hp,hq,h1,h2=>by
   have he2:e/2<2^f:=by rw[Nat.pow_succ] at he;omega
   have hd:=addN_rep x y z x y z p p hp hp h1 h1
   have hdp:=on_add p p hp hp
   by_cases hb:e%2=1
   ·have ee:timesE e p=addE (timesE (e/2) (addE p p)) p:=by
      rw[← times_two p hp,show e=2*(e/2)+1 by omega]
      rw[show (2*(e/2)+1)/2=e/2 by omega]
      rfl
    have IH:=tm_rep f (e/2) _ _ _ _ _ _ (addE p p) (addE q p) he2 hdp (on_add q p hq hp) hd (addN_rep X Y Z x y z q p hq hp h2 h1)
    rw[add_assoc' _ _ _ hq hp (on_times _ hdp _),add_comm' p (timesE _ _),← ee] at IH
    unfold tmX
    rw[hb]
    exact IH
   ·have hb0:e%2=0:=by omega
    have ee:timesE e p=timesE (e/2) (addE p p):=by
     rw[← times_two p hp,show 2*(e/2)=e by omega]
    have IH:=tm_rep f (e/2) _ _ _ X Y Z (addE p p) q he2 hdp hq hd h2
    rw[← ee] at IH
    unfold tmX
    rw[hb0]
    exact IH
def bX:Nat:=15112221349535400772501151409588531511454012693041857206046113283949847762202
def bY:Nat:=46316835694926478169428394003475163141307993866256225615783033603165251855960
def baseE:Fp × Fp:=(fz bX,fz bY)
theorem base_is:(bY*bY+PN-bX*bX%PN)%PN=(1+dN*(bX*bX%PN)%PN*(bY*bY%PN))%PN∧bY*5%PN=4∧bX%2=0∧bX<PN∧bY<PN:=by decide +kernel
theorem on_base:On baseE:=by
 have h:=congrArg fz base_is.1
 have hs:∀ a b:Nat,fz (a+PN-b%PN)=fz a-fz b:=fun a b=>by rw[fz_sub _ _ (Nat.le_of_lt (Nat.mod_lt _ PN_pos)),fz_mod]
 simp only[fz_mod,fz_mul,hs,fz_add,fz_one] at h
 exact h
theorem base_rep:Rep (fz bX) (fz bY) (fz 1) baseE:=⟨by
 intro h
 rw[fz_null] at h
 revert h
 decide +kernel,Lean.Grind.Semiring.mul_one _,Lean.Grind.Semiring.mul_one _⟩
theorem zero_rep:Rep (fz 0) (fz 1) (fz 1) zeroE:=⟨base_rep.1,Lean.Grind.Semiring.mul_one _,Lean.Grind.Semiring.mul_one _⟩
theorem ell_num:(tmX 253 LN bX bY 1 0 1 1).1%PN=0∧(tmX 253 LN bX bY 1 0 1 1).2.1%PN=(tmX 253 LN bX bY 1 0 1 1).2.2%PN:=by decide +kernel
/-- The order of the base. -/
theorem ell_base:timesE LN baseE=zeroE:=by
 have h:=tm_rep 253 LN bX bY 1 0 1 1 baseE zeroE (by decide +kernel) on_base on_zero base_rep zero_rep
 obtain⟨n1,n2⟩:=ell_num
 generalize tmX 253 LN bX bY 1 0 1 1=t at *
 rw[add_comm',add_zero' _ (on_times _ on_base _)] at h
 obtain⟨h1,h2,h3⟩:=h
 have e1:fz t.1=0:=(fz_null _).2 n1
 have e2:fz t.2.1=fz t.2.2:=by rw[← fz_mod,n2,fz_mod]
 rw[e1] at h2
 rw[e2] at h3
 refine Prod.ext ?_ (fp_cancel _ _ _ h1 ?_)
 ·rcases fp_dom _ _ h2 with h | h
  ·exact h
  ·exact absurd h h1
 ·rw[h3]
  exact (Lean.Grind.Semiring.one_mul _).symm
theorem times_gcd (p:Fp × Fp) (hp:On p) (m n:Nat):timesE m p=zeroE→timesE n p=zeroE→timesE (Nat.gcd m n) p=zeroE:=by
 refine Nat.gcd.induction (P:=fun m n=>timesE m p=zeroE→timesE n p=zeroE→timesE (Nat.gcd m n) p=zeroE) m n ?_ ?_
 ·intro n _ hn
  rw[Nat.gcd_zero_left]
  exact hn
 ·intro m n hm ih h1 h2
  rw[Nat.gcd_rec]
  refine ih ?_ h1
  have e:timesE n p=addE (timesE (n/m*m) p) (timesE (n%m) p):=by rw[← times_add p hp,Nat.mul_comm,Nat.div_add_mod]
  rw[times_mul p hp m,h1,times_zero,add_comm',add_zero' _ (on_times p hp _)] at e
  rw[← e]
  exact h2
theorem base_not:baseE≠zeroE:=fun h=>by
 have h1:fz bX=0:=congrArg Prod.fst h
 rw[fz_null] at h1
 revert h1
 decide +kernel
end Go.Proofs.YtnaldciakclccaaGreat
