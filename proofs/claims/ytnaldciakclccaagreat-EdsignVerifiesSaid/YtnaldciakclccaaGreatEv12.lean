/- Lemmas of this proof. -/
import Derived.Test.YtnaldciakclccaaGreatEv11
import Derived.Test.YtnaldciakclccaaGreatEv09
import Derived.Test.YtnaldciakclccaaGreatEv04
import Derived.Test.YtnaldciakclccaaGreatEv07
namespace Go.Proofs.YtnaldciakclccaaGreat
set_option maxRecDepth 20000
set_option maxHeartbeats 8000000
set_option linter.unusedSimpArgs false
set_option linter.unusedVariables false
open Go.RowKit
theorem cW (w:World) (x0 x1 x2 x3 y0 y1 y2 y3:Int):(Op.equalIn 10000 23 (.agg #[.int .u64 x0,.int .u64 x1,.int .u64 x2,.int .u64 x3]) (.agg #[.int .u64 y0,.int .u64 y1,.int .u64 y2,.int .u64 y3])).run Tryz.prog w=.ok (x0 == y0 && (x1 == y1 && (x2 == y2 && x3 == y3))) w:=by
 have he:∀ (a b:Int) (w:World),(Op.equalIn 9999 22 (.int .u64 a) (.int .u64 b)).run Tryz.prog w=.ok (a == b) w:=fun a b w=>run_equalIn_int w 9998 22 .u64 .u64 a b Tryz.underlying22
 rw[show (10000:Nat)=9999+1 from rfl,Op.equalIn]
 simp only[Sem.run_bind,run_underlying Tryz.underlying23,Result.andThen_ok]
 have hp:∀ (v:Value) (k:Nat) (xs:Array Value) (w:World),xs[k]?=some v→(part 22 xs k).run Tryz.prog w=.ok v w:=fun v k xs w h=>by
  simp only[part]
  go_simp
 have hz:∀ w,(sizeOf 22).run Tryz.prog w=.ok 1 w:=Tryz.sizeOf22
 rw[hz]
 simp only[Result.andThen_ok]
 rw[Std.Legacy.Range.forIn_eq_forIn_range']
 simp[Std.Legacy.Range.size,List.range']
 have a0:=fun w=>hp (.int .u64 x0) 0 #[.int .u64 x0,.int .u64 x1,.int .u64 x2,.int .u64 x3] w rfl
 have b0:=fun w=>hp (.int .u64 y0) 0 #[.int .u64 y0,.int .u64 y1,.int .u64 y2,.int .u64 y3] w rfl
 have a1:=fun w=>hp (.int .u64 x1) 1 #[.int .u64 x0,.int .u64 x1,.int .u64 x2,.int .u64 x3] w rfl
 have b1:=fun w=>hp (.int .u64 y1) 1 #[.int .u64 y0,.int .u64 y1,.int .u64 y2,.int .u64 y3] w rfl
 have a2:=fun w=>hp (.int .u64 x2) 2 #[.int .u64 x0,.int .u64 x1,.int .u64 x2,.int .u64 x3] w rfl
 have b2:=fun w=>hp (.int .u64 y2) 2 #[.int .u64 y0,.int .u64 y1,.int .u64 y2,.int .u64 y3] w rfl
 have a3:=fun w=>hp (.int .u64 x3) 3 #[.int .u64 x0,.int .u64 x1,.int .u64 x2,.int .u64 x3] w rfl
 have b3:=fun w=>hp (.int .u64 y3) 3 #[.int .u64 y0,.int .u64 y1,.int .u64 y2,.int .u64 y3] w rfl
 simp only[a0,b0,a1,b1,a2,b2,a3,b3,he,Result.andThen_ok]
 generalize (x0 == y0)=c0
 generalize (x1 == y1)=c1
 generalize (x2 == y2)=c2
 generalize (x3 == y3)=c3
 cases c0 <;> cases c1 <;> cases c2 <;> cases c3 <;> simp
theorem bn (a b:Nat) (w:World) (ha:a<B64^4) (hb:b<B64^4):(Op.equalIn 10000 23 (.agg #[.int .u64 (wd a 0:Int),.int .u64 (wd a 1:Int),.int .u64 (wd a 2:Int),.int .u64 (wd a 3:Int)]) (.agg #[.int .u64 (wd b 0:Int),.int .u64 (wd b 1:Int),.int .u64 (wd b 2:Int),.int .u64 (wd b 3:Int)])).run Tryz.prog w=.ok (decide (a=b)) w:=by
 rw[cW,Ld a b ha hb]
theorem Nw (X:Nat):wd X 0%2=X%2:=by
 unfold wd
 rw[Nat.pow_zero,Nat.div_one]
 exact Nat.mod_mod_of_dvd X (by decide)
theorem Pj (a b:Nat) (w:World) (ha:a<B64^4) (hb:b<B64^4):(Op.equalIn 10000 23 (.agg #[.int .u64 (wd a 0:Int),.int .u64 (wd a 1:Int),.int .u64 (wd a 2:Int),.int .u64 (wd a 3:Int)]) (.agg #[.int .u64 (wd b 0:Int),.int .u64 (wd b 1:Int),.int .u64 (wd b 2:Int),.int .u64 (wd b 3:Int)])).run Tryz.prog w=.ok (decide (a=b)) w:=bn a b w ha hb
def O3 (a:Nat):Bool:=decide (a^E2%PN=0) || decide (a^E2%PN=1)
def Pe (i a:Nat):Nat:=if O3 a=true then (if r1N i a%2=1 then (0+PN-r1N i a)%PN else r1N i a) else 0
theorem Wk (a:Nat) (w:World) (ha:a<PN):Calls Tryz.prog 70 #[Aa a] w fun e w'=>e=.returned (.tuple #[Aa (Pe iV a),.bool (O3 a)])∧Below w.heap.size w w':=by
 have HMIX:=Lh (show Tryz.prog.follows .mixedOrders=true by kernel_rfl)
 have KT1:=Lh cU
 have KP1:=Lh (fun w=>Jc a E2 w ha jg)
 have KT2:=Lh dV
 have KP2:=Lh (fun w=>Jc a P3 w ha gR)
 have KT3:=Lh cI
 have KP3:=Lh cJ
 have hx:a^E2%PN<PN:=Wo a E2
 have hROK:O3 a=(decide (a^E2%PN=0) || decide (a^E2%PN=1)):=rfl
 have HRT:Hid (Pe iV a=if O3 a=true then (if r1N iV a%2=1 then (0+PN-r1N iV a)%PN else r1N iV a) else 0):=rfl
 have hr0:=SN a
 have hr1:=Pg iV a
 have H1:Hid (r1N iV a=if r0N a*r0N a%PN=a then r0N a else r0N a*iV%PN):=rfl
 have e0:a^P3%PN=r0N a:=rfl
 rw[e0] at KP2
 have hiV:=eF
 obtain⟨X0,hX0⟩:=exzb (a^E2%PN)
 obtain⟨r0,hr⟩:=exzb (r0N a)
 obtain⟨r1,hq⟩:=exzb (r1N iV a)
 obtain⟨i,hi⟩:=exzb (iV)
 rw[hX0] at KP1 hx hROK
 rw[hr] at KP2 H1 hr0
 rw[hq] at H1 HRT hr1
 rw[hi] at KP3 H1 hiV
 have S0:=Lh (fun w=>Fh 0 w (by decide))
 have S1:=Lh (fun w=>Fh 1 w (by decide))
 have S2:=Lh (fun w=>Fh 2 w (by decide))
 obtain⟨x0,hx0⟩:∃ x0,x0=0:=⟨0,rfl⟩
 obtain⟨x1,hx1⟩:∃ x1,x1=1:=⟨1,rfl⟩
 obtain⟨x2,hx2⟩:∃ x2,x2=2:=⟨2,rfl⟩
 have S0:Hid (∀ w,Calls Tryz.prog 68 #[.int .u64 0] w fun e w'=>e=.returned (Aa x0)∧Below w.heap.size w w'):=fun w=>by rw[hx0];exact S0.out w
 have S1:Hid (∀ w,Calls Tryz.prog 68 #[.int .u64 1] w fun e w'=>e=.returned (Aa x1)∧Below w.heap.size w w'):=fun w=>by rw[hx1];exact S1.out w
 have S2:Hid (∀ w,Calls Tryz.prog 68 #[.int .u64 2] w fun e w'=>e=.returned (Aa x2)∧Below w.heap.size w w'):=fun w=>by rw[hx2];exact S2.out w
 rw[← hx2] at KP3
 have kz0:=fun w=>Pj X0 x0 w (Bv hx) (by rw[hx0];decide)
 have kz1:=fun w=>Pj X0 x1 w (Bv hx) (by rw[hx1];decide)
 have KS0:Hid (∀ w,Calls Tryz.prog 114 #[Aa x0,Aa r1] w fun e w'=>e=.returned (Aa ((0+PN-r1)%PN))∧Below w.heap.size w w'):=fun w=>by
  rw[hx0]
  exact N9 0 r1 w (by decide) (Bv hr1) (by omega)
 have KMs:=Lh JW
 rw[← hx0,← hx1] at hROK
 obtain⟨t1,ht1⟩:=exzb (E2)
 obtain⟨t2,ht2⟩:=exzb (P3)
 obtain⟨t3,ht3⟩:=exzb (P4)
 rw[ht1] at KT1 KP1
 rw[ht2] at KT2 KP2
 rw[ht3] at KT3 KP3
 have HROK:=Lh hROK
 have HLT:=Lh (And.intro ha (And.intro hr0 (And.intro hr1 hiV)))
 obtain⟨xa,xr,xz,xB⟩:=MT a 23 23 w
 simp only[AL] at KT1 KP1 KT2 KP2 KT3 KP3 S0 S1 S2 KS0 ⊢
 clear hx e0 hX0 hr hq hi hx0 hx1 hx2 ht1 ht2 ht3 hROK ha hr0 hr1 hiV
 go_enter Tryz.func70,Tryz.ntmps70
 go_wp2_with fail
 change Code.wp _ _ _ _ (A2 a 23 23 w)
 generalize A2 a 23 23 w=X at *
 have RA:=Lh xa
 have RR:=Lh xr
 have RB:=Lh xB
 have hXs:w.heap.size+2≤X.heap.size:=by omega
 clear xa xr xz xB
 go_cut [4] (fun s4 wc=>∃ b4,s4=.pointer (some ⟨b4,0,none⟩)∧IsA wc b4 X0 23∧IsA wc w.heap.size a 23∧IsA wc (w.heap.size+1) 0 23∧Below w.heap.size w wc)
 case first =>
  clear kz0 kz1
  have hC0:C4 X w.heap.size a:=Dk RA.out
  have hC:C4 X w.heap.size a:=hC0
  have hCd:C4 X.drew w.heap.size a:=hC0
  go_region_held3 (fun w'=>w'.cell? ⟨w.heap.size,0,none⟩=some (.int .u64 (wd a 0:Int))∧w'.cell? ⟨w.heap.size,1,none⟩=some (.int .u64 (wd a 1:Int))∧w'.cell? ⟨w.heap.size,2,none⟩=some (.int .u64 (wd a 2:Int))∧w'.cell? ⟨w.heap.size,3,none⟩=some (.int .u64 (wd a 3:Int))) (first | (with_reducible exact hCd) | (focus ((repeat (first | (with_reducible assumption) | (with_reducible apply C4.alloc) | (with_reducible apply C4.drew) | (with_reducible apply C4.far) | (with_reducible apply C4.calls) | exact Nat.le_refl _ | omega | (simp;done)));done))) (first
   | (go_at_call 127;go_must (refine (KT1.out _).mono ?_);rintro e w3 ⟨rfl,hb3⟩
      have hs3:=hb3.size
      (try simp at hs3)
      try (have N3:w3.heap[X.heap.size]?=some (.cells #[.int .u64 0,.int .u64 0,.int .u64 0,.int .u64 0] 23 (0,0)):=by
             refine keep ?_ hb3
             exact Aj X _
           obtain⟨⟨c0,c1,c2,c3⟩,cf0,cf1,cf2,cf3⟩:=Aq N3))
   | (go_at_call 126;go_must (refine (KP1.out _).mono ?_);rintro e w4 ⟨rfl,hb4⟩
      have hs4:=hb4.size
      (try simp at hs4)
      try (have N4:w4.heap[X.heap.size]?=some (.cells #[.int .u64 0,.int .u64 0,.int .u64 0,.int .u64 0] 23 (0,0)):=keep N3 hb4
           obtain⟨⟨g0,g1,g2,g3⟩,gf0,gf1,gf2,gf3⟩:=Aq N4)
      try (have O4:w4.heap[w3.heap.size]?=some (.cells #[.int .u64 0,.int .u64 0,.int .u64 0,.int .u64 0] 23 (0,0)):=by
             refine keep ?_ hb4
             exact Aj w3 _
           obtain⟨⟨k0,k1,k2,k3⟩,kf0,kf1,kf2,kf3⟩:=Aq O4)))
  all_goals
   rename_i hH
   clear hH
   have xA:=RA.out
   have xR:=RR.out
   have xW:=RB.out
   go_wp2_with fail
   go_meet
   case rel =>
    refine⟨_,rfl,?_,?_,?_,?_⟩
    all_goals
     (focus ((repeat (first | (with_reducible assumption) | (with_reducible apply AN) | (with_reducible exact GY _ _ _) | (with_reducible exact SJ _ _ _ _) | (with_reducible exact S9 _ _ _ _) | (with_reducible exact G4 _ _ _ _) | (with_reducible apply IsA.far) | (with_reducible apply IsA.alloc) | (with_reducible apply IsA.drew) | (with_reducible apply AH) | (with_reducible apply Bh) | (with_reducible apply Bi) | (with_reducible apply Dc) | (with_reducible apply AE) | (with_reducible exact Aj _ _) | (with_reducible apply AP) | (with_reducible apply Gn) | exact Nat.le_refl _ | omega | (simp;done) | (simp;omega)));done))
 case rest =>
  obtain⟨b4,rfl,r4,ra,rr,rb⟩:=hcut
  clear RA RR RB hXs KT1 KP1
  obtain⟨⟨p0,p1,p2,p3⟩,_⟩:=Aq r4
  have D0:=fun d os=>cell_regrown p0 d os
  have D1:=fun d os=>cell_regrown p1 d os
  have D2:=fun d os=>cell_regrown p2 d os
  have D3:=fun d os=>cell_regrown p3 d os
  have RA:=Lh ra
  have RR:=Lh rr
  have RB:=Lh rb
  clear p0 p1 p2 p3 r4 ra rr rb
  go_wp2_with fail
  go_cut [16] (fun s16 wd'=>s16=.bool (!(O3 a))∧IsA wd' w.heap.size a 23∧IsA wd' (w.heap.size+1) 0 23∧Below w.heap.size w wd')
  case first =>
   by_cases g0:X0=x0
   ·have d0:decide (X0=x0)=true:=decide_eq_true g0
    have kz0':=fun w=>(kz0 w).trans (by rw[d0])
    clear kz0 kz1 g0
    refine wp_region_quiet_below HMIX.out (by kernel_rfl) ?_
    repeat (go_big_quiet_step (first
     | (go_at_call_of 68 (Value.int .u64 0);exact Calls.regrown_of (S0.out _))
     | (go_at_call_of 68 (Value.int .u64 1);exact Calls.regrown_of (S1.out _))))
    refine wpQuiet_nil ?_
    intro _ hw'
    obtain⟨⟨nq1,os1⟩,hw''⟩:=hw'
    subst hw''
    go_wp2_with fail
    go_meet
    case rel=>exact⟨by rw[HROK.out,d0];rfl,AH (below_regrown wc nq1 os1) RA.out (Nat.le_refl _),AH (below_regrown wc nq1 os1) RR.out (Nat.le_refl _),AE (below_regrown wc nq1 os1) RB.out (Nat.le_refl _)⟩
   ·have d0:decide (X0=x0)=false:=decide_eq_false g0
    have kz0':=fun w=>(kz0 w).trans (by rw[d0])
    clear kz0 g0
    by_cases g1:X0=x1
    ·have d1:decide (X0=x1)=true:=decide_eq_true g1
     have kz1':=fun w=>(kz1 w).trans (by rw[d1])
     clear kz1 g1
     refine wp_region_quiet_below HMIX.out (by kernel_rfl) ?_
     repeat (go_big_quiet_step (first
      | (go_at_call_of 68 (Value.int .u64 0);exact Calls.regrown_of (S0.out _))
      | (go_at_call_of 68 (Value.int .u64 1);exact Calls.regrown_of (S1.out _))))
     refine wpQuiet_nil ?_
     intro _ hw'
     obtain⟨⟨nq1,os1⟩,hw''⟩:=hw'
     subst hw''
     go_wp2_with fail
     go_meet
     case rel=>exact⟨by rw[HROK.out,d0,d1];rfl,AH (below_regrown wc nq1 os1) RA.out (Nat.le_refl _),AH (below_regrown wc nq1 os1) RR.out (Nat.le_refl _),AE (below_regrown wc nq1 os1) RB.out (Nat.le_refl _)⟩
    ·have d1:decide (X0=x1)=false:=decide_eq_false g1
     have kz1':=fun w=>(kz1 w).trans (by rw[d1])
     clear kz1 g1
     refine wp_region_quiet_below HMIX.out (by kernel_rfl) ?_
     repeat (go_big_quiet_step (first
      | (go_at_call_of 68 (Value.int .u64 0);exact Calls.regrown_of (S0.out _))
      | (go_at_call_of 68 (Value.int .u64 1);exact Calls.regrown_of (S1.out _))))
     refine wpQuiet_nil ?_
     intro _ hw'
     obtain⟨⟨nq1,os1⟩,hw''⟩:=hw'
     subst hw''
     go_wp2_with fail
     go_meet
     case rel=>exact⟨by rw[HROK.out,d0,d1];rfl,AH (below_regrown wc nq1 os1) RA.out (Nat.le_refl _),AH (below_regrown wc nq1 os1) RR.out (Nat.le_refl _),AE (below_regrown wc nq1 os1) RB.out (Nat.le_refl _)⟩
  case rest =>
   obtain⟨rfl,ra,rr,rb⟩:=hcut
   clear RA RR RB D0 D1 D2 D3 kz0 kz1 S1 HROK
   by_cases hok:O3 a=true
   ·rw[hok]
    have HOK:=Lh hok
    have RA:=Lh ra
    have RR:=Lh rr
    have RB:=Lh rb
    have hXs:w.heap.size+1<wc.heap.size:=AU rr
    clear hok ra rr rb
    go_wp2_with fail
    go_cut [5] (fun s5 wc=>∃ b5,s5=.pointer (some ⟨b5,0,none⟩)∧IsA wc b5 r0 23∧IsA wc w.heap.size a 23∧IsA wc (w.heap.size+1) 0 23∧w.heap.size+1<b5∧Below w.heap.size w wc)
    case first =>
     have hC0:C4 wc w.heap.size a:=Dk RA.out
     have hC:C4 wc w.heap.size a:=hC0
     have hCd:C4 wc.drew w.heap.size a:=hC0
     go_region_held3 (fun w'=>w'.cell? ⟨w.heap.size,0,none⟩=some (.int .u64 (wd a 0:Int))∧w'.cell? ⟨w.heap.size,1,none⟩=some (.int .u64 (wd a 1:Int))∧w'.cell? ⟨w.heap.size,2,none⟩=some (.int .u64 (wd a 2:Int))∧w'.cell? ⟨w.heap.size,3,none⟩=some (.int .u64 (wd a 3:Int))) (first | (with_reducible exact hCd) | (focus ((repeat (first | (with_reducible assumption) | (with_reducible apply C4.alloc) | (with_reducible apply C4.drew) | (with_reducible apply C4.far) | (with_reducible apply C4.calls) | exact Nat.le_refl _ | omega | (simp;done)));done))) (first
      | (go_at_call 127;go_must (refine (KT2.out _).mono ?_);rintro e w3 ⟨rfl,hb3⟩
         have hs3:=hb3.size
         (try simp at hs3)
         try (have N3:w3.heap[wc.heap.size]?=some (.cells #[.int .u64 0,.int .u64 0,.int .u64 0,.int .u64 0] 23 (0,0)):=by
                refine keep ?_ hb3
                exact Aj wc _
              obtain⟨⟨c0,c1,c2,c3⟩,cf0,cf1,cf2,cf3⟩:=Aq N3))
      | (go_at_call 126;go_must (refine (KP2.out _).mono ?_);rintro e w4 ⟨rfl,hb4⟩
         have hs4:=hb4.size
         (try simp at hs4)
         try (have N4:w4.heap[wc.heap.size]?=some (.cells #[.int .u64 0,.int .u64 0,.int .u64 0,.int .u64 0] 23 (0,0)):=keep N3 hb4
              obtain⟨⟨g0,g1,g2,g3⟩,gf0,gf1,gf2,gf3⟩:=Aq N4)
         try (have O4:w4.heap[w3.heap.size]?=some (.cells #[.int .u64 0,.int .u64 0,.int .u64 0,.int .u64 0] 23 (0,0)):=by
                refine keep ?_ hb4
                exact Aj w3 _
              obtain⟨⟨k0,k1,k2,k3⟩,kf0,kf1,kf2,kf3⟩:=Aq O4)))
     all_goals
      rename_i hH
      clear hH
      have xA:=RA.out
      have xR:=RR.out
      have xW:=RB.out
      go_wp2_with fail
      go_meet
      case rel =>
       refine⟨_,rfl,?_,?_,?_,?_,?_⟩
       all_goals
        (focus ((repeat (first | (with_reducible assumption) | (with_reducible apply AN) | (with_reducible exact GY _ _ _) | (with_reducible exact SJ _ _ _ _) | (with_reducible exact S9 _ _ _ _) | (with_reducible exact G4 _ _ _ _) | (with_reducible apply IsA.far) | (with_reducible apply IsA.alloc) | (with_reducible apply IsA.drew) | (with_reducible apply AH) | (with_reducible apply Bh) | (with_reducible apply Bi) | (with_reducible apply Dc) | (with_reducible apply AE) | (with_reducible exact Aj _ _) | (with_reducible apply AP) | (with_reducible apply Gn) | exact Nat.le_refl _ | omega | (simp;done) | (simp;omega)));done))
    case rest =>
     obtain⟨b5,rfl,r5,ra,rr,hb5,rb⟩:=hcut
     clear RA RR RB KT2 KP2 hXs
     obtain⟨⟨p0,p1,p2,p3⟩,_⟩:=Aq r5
     obtain⟨⟨q0,q1,q2,q3⟩,_⟩:=Aq ra
     have D0:=fun d os=>cell_regrown p0 d os
     have D1:=fun d os=>cell_regrown p1 d os
     have D2:=fun d os=>cell_regrown p2 d os
     have D3:=fun d os=>cell_regrown p3 d os
     have F0:=fun d os=>cell_regrown q0 d os
     have F1:=fun d os=>cell_regrown q1 d os
     have F2:=fun d os=>cell_regrown q2 d os
     have F3:=fun d os=>cell_regrown q3 d os
     have R5:=Lh r5
     have RA:=Lh ra
     have RR:=Lh rr
     have RB:=Lh rb
     clear p0 p1 p2 p3 q0 q1 q2 q3 r5 ra rr rb
     have KMM:=Lh (fun w=>KMs.out r0 r0 w (Bv HLT.out.2.1) (Bv HLT.out.2.1))
     have hq0:r0*r0%PN<PN:=Nat.mod_lt _ Au
     obtain⟨q0,hq0'⟩:∃ q0,r0*r0%PN=q0:=⟨_,rfl⟩
     rw[hq0'] at KMM H1 hq0
     have kq:=fun w=>Pj q0 a w (Bv hq0) (Bv HLT.out.1)
     simp only[AL] at KMM
     clear hq0 hq0'
     go_wp2_with fail
     refine wp_region_quiet_below HMIX.out (by kernel_rfl) ?_
     repeat (go_big_quiet_step (first
      | (go_at_call 67;exact Calls.regrown_of (KMM.out _))))
     refine wpQuiet_nil ?_
     intro _ hw'
     obtain⟨⟨nq1,os1⟩,hw''⟩:=hw'
     subst hw''
     have r5:=AH (below_regrown wc nq1 os1) R5.out (Nat.le_refl _)
     have RR':=Lh (AH (below_regrown wc nq1 os1) RR.out (Nat.le_refl _))
     have RB':=Lh (AE (below_regrown wc nq1 os1) RB.out (Nat.le_refl _))
     clear D0 D1 D2 D3 F0 F1 F2 F3 kq KMM R5 RA RR RB
     generalize Sort.grow (redrawn wc nq1) os1=V at *
     by_cases h0:q0=a
     ·rw[decide_eq_true h0]
      have hr1:=H1.out
      rw[if_pos h0] at hr1
      subst hr1
      have RO:=Lh r5
      have RR:=RR'
      have RB:=RB'
      clear r5 RR' RB' h0 H1
      generalize V=U at *
      obtain⟨⟨s0,s1,s2,s3⟩,_⟩:=Aq RO.out
      have hbU:=RB.out.size
      have hlU:=AU RO.out
      have hrU:=AU RR.out
      have hod:=Nw r1
      by_cases h2:r1%2=1
      ·have o1:(((wd r1 0:Int)%2) == 1)=true:=by
         have:(wd r1 0:Int)%2=1:=by omega
         rw[this];rfl
       have o2:((Int.tmod (wd r1 0:Int) 2) == 1)=true:=by
        rw[Int.tmod_eq_emod_of_nonneg (by omega)]
        exact o1
       have o3:(wd r1 0:Int)%2=1:=by omega
       have hR:=HRT.out
       rw[if_pos HOK.out,if_pos h2] at hR
       obtain⟨R,hRR⟩:=exzb ((0+PN-r1)%PN)
       have KSR:Hid (∀ w,Calls Tryz.prog 114 #[.agg #[.int .u64 (wd x0 0:Int),.int .u64 (wd x0 1:Int),.int .u64 (wd x0 2:Int),.int .u64 (wd x0 3:Int)],.agg #[.int .u64 (wd r1 0:Int),.int .u64 (wd r1 1:Int),.int .u64 (wd r1 2:Int),.int .u64 (wd r1 3:Int)]] w fun e w'=>e=.returned (.agg #[.int .u64 (wd R 0:Int),.int .u64 (wd R 1:Int),.int .u64 (wd R 2:Int),.int .u64 (wd R 3:Int)])∧Below w.heap.size w w'):=fun w=>by
        have h:=KS0.out w
        rw[hRR] at h
        exact h
       rw[hRR] at hR
       have HR:=Lh hR
       clear hod h2 hR hRR
       go_wp2_with fail
       obtain⟨⟨p0,p1,p2,p3⟩,g0,g1,g2,g3⟩:=Aq RO.out
       go_region_law (first
        | (go_simp;go_at_call 68;go_must (refine (S0.out _).mono ?_);rintro e w7 ⟨rfl,hb7⟩
           have ro7:=AH hb7 RO.out.drew (Nat.le_refl _)
           obtain⟨⟨k0,k1,k2,k3⟩,f0,f1,f2,f3⟩:=Aq ro7)
        | (go_simp;go_at_call 114;go_must (refine (KSR.out _).mono ?_);rintro e w8 ⟨rfl,hb8⟩
           have ro8:=AH hb8 ro7 (Nat.le_refl _)
           obtain⟨⟨m0,m1,m2,m3⟩,h0,h1,h2,h3⟩:=Aq ro8))
       all_goals
        have hz7:U.heap.size≤w7.heap.size:=hb7.size
        have hz8:=hb8.size
        have ro9:=AN (n:=R) ro8
        have rr9:=AT ((AH hb8 (AH hb7 RR.out.drew (Nat.le_refl _)) (Nat.le_refl _)).far (c:=b5) (v0:=.int .u64 (wd R 0:Int)) (v1:=.int .u64 (wd R 1:Int)) (v2:=.int .u64 (wd R 2:Int)) (v3:=.int .u64 (wd R 3:Int)) (by omega))
        have rb9:=Bh (AE hb8 (AE hb7 (Dc RB.out) (Nat.le_refl _)) (Nat.le_refl _)) (v0:=.int .u64 (wd R 0:Int)) (v1:=.int .u64 (wd R 1:Int)) (v2:=.int .u64 (wd R 2:Int)) (v3:=.int .u64 (wd R 3:Int)) (b:=b5) (by omega)
        clear RO RR RB hb7 hb8 ro7 ro8 p0 p1 p2 p3 g0 g1 g2 g3 k0 k1 k2 k3 f0 f1 f2 f3 m0 m1 m2 m3 h0 h1 h2 h3 s0 s1 s2 s3
        generalize (((w8.setCell ⟨b5,0,none⟩ (.int .u64 (wd R 0:Int))).setCell ⟨b5,1,none⟩ (.int .u64 (wd R 1:Int))).setCell ⟨b5,2,none⟩ (.int .u64 (wd R 2:Int))).setCell ⟨b5,3,none⟩ (.int .u64 (wd R 3:Int))=Y9 at *
        obtain⟨⟨p0,p1,p2,p3⟩,_⟩:=Aq ro9
        obtain⟨⟨d0,d1,d2,d3⟩,e0,e1,e2,e3⟩:=Aq rr9
        have KLd:=Lh (BU (AN (n:=R) rr9))
        have BR:=Lh (Bh rb9 (v0:=.int .u64 (wd R 0:Int)) (v1:=.int .u64 (wd R 1:Int)) (v2:=.int .u64 (wd R 2:Int)) (v3:=.int .u64 (wd R 3:Int)) (b:=w.heap.size+1) (by omega))
        clear ro9 rr9 rb9
        go_wp2_with fail
        exact bodyPost_ret (AC Tryz.results70 (by rfl) (by rfl) KLd.out) rfl ⟨by rw[HR.out,HOK.out];rfl,BR.out⟩
      ·have o3:(wd r1 0:Int)%2=0:=by omega
       have o1:(((wd r1 0:Int)%2) == 1)=false:=by rw[o3];rfl
       have o2:((Int.tmod (wd r1 0:Int) 2) == 1)=false:=by
        rw[Int.tmod_eq_emod_of_nonneg (by omega)]
        exact o1
       have hR:=HRT.out
       rw[if_pos HOK.out,if_neg h2] at hR
       have HR:=Lh hR
       have rr9:=AT RR.out
       obtain⟨⟨d0,d1,d2,d3⟩,e0,e1,e2,e3⟩:=Aq rr9
       have KLd:=Lh (BU (AN (n:=r1) rr9))
       have BR:=Lh (Bh RB.out (v0:=.int .u64 (wd r1 0:Int)) (v1:=.int .u64 (wd r1 1:Int)) (v2:=.int .u64 (wd r1 2:Int)) (v3:=.int .u64 (wd r1 3:Int)) (b:=w.heap.size+1) (by omega))
       clear hod h2 hR rr9 RO RR RB
       go_wp2_with fail
       exact bodyPost_ret (AC Tryz.results70 (by rfl) (by rfl) KLd.out) rfl ⟨by rw[HR.out,HOK.out];rfl,BR.out⟩
     ·rw[decide_eq_false h0]
      have hr1:=H1.out
      rw[if_neg h0] at hr1
      have KMR:=Lh (fun w=>KMs.out r0 i w (Bv HLT.out.2.1) (Bv HLT.out.2.2.2))
      rw[← hr1] at KMR
      simp only[AL] at KMR
      have RO:=Lh r5
      have RR:=RR'
      have RB:=RB'
      have hbV:=RB'.out.size
      obtain⟨⟨p0,p1,p2,p3⟩,g0,g1,g2,g3⟩:=Aq r5
      clear r5 RR' RB' h0 H1 hr1
      go_wp2_with fail
      go_cut [] (fun wc=>IsA wc b5 r1 23∧IsA wc (w.heap.size+1) 0 23∧Below w.heap.size w wc)
      case first =>
       go_region_law (first
        | (go_simp;go_at_call 68;go_must (refine (S2.out _).mono ?_);rintro e w4 ⟨rfl,hb4⟩
           have ro4:=AH hb4 RO.out.drew (Nat.le_refl _)
           obtain⟨⟨k0,k1,k2,k3⟩,f0,f1,f2,f3⟩:=Aq ro4)
        | (go_simp;go_at_call 127;go_must (refine (KT3.out _).mono ?_);rintro e w5 ⟨rfl,hb5'⟩
           have ro5:=AH hb5' ro4 (Nat.le_refl _)
           obtain⟨⟨m0,m1,m2,m3⟩,h0,h1,h2,h3⟩:=Aq ro5)
        | (go_simp;go_at_call 126;go_must (refine (KP3.out _).mono ?_);rintro e w6 ⟨rfl,hb6⟩
           have ro6:=AH hb6 ro5 (Nat.le_refl _)
           obtain⟨⟨n0,n1,n2,n3⟩,o0,o1,o2,o3⟩:=Aq ro6)
        | (go_simp;go_at_call 67;go_must (refine (KMR.out _).mono ?_);rintro e w7 ⟨rfl,hb7⟩
           have ro7:=AH hb7 ro6 (Nat.le_refl _)
           obtain⟨⟨z0,z1,z2,z3⟩,y0,y1,y2,y3⟩:=Aq ro7))
       all_goals
        have hb47:=AE hb7 (AE hb6 (AE hb5' hb4 (Nat.le_refl _)) (Nat.le_refl _)) (Nat.le_refl _)
        have RO':=Lh (AN (n:=r1) ro7)
        have RR':=Lh ((AH hb47 RR.out.drew (Nat.le_refl _)).far (c:=b5) (v0:=.int .u64 (wd r1 0:Int)) (v1:=.int .u64 (wd r1 1:Int)) (v2:=.int .u64 (wd r1 2:Int)) (v3:=.int .u64 (wd r1 3:Int)) (by omega))
        have RB':=Lh (Bh (AE hb47 (Dc RB.out) (Nat.le_refl _)) (v0:=.int .u64 (wd r1 0:Int)) (v1:=.int .u64 (wd r1 1:Int)) (v2:=.int .u64 (wd r1 2:Int)) (v3:=.int .u64 (wd r1 3:Int)) (b:=b5) (by omega))
        go_wp2_with fail
        go_meet
        case rel=>exact⟨RO'.out,RR'.out,RB'.out⟩
      case rest =>
       clear RO RR RB p0 p1 p2 p3 g0 g1 g2 g3 KMR KT3 KP3 S2
       obtain⟨ro,rr,rb⟩:=hcut
       have RO:=Lh ro
       have RR:=Lh rr
       have RB:=Lh rb
       clear ro rr rb
       generalize wc=U at *
       obtain⟨⟨s0,s1,s2,s3⟩,_⟩:=Aq RO.out
       have hbU:=RB.out.size
       have hlU:=AU RO.out
       have hrU:=AU RR.out
       have hod:=Nw r1
       by_cases h2:r1%2=1
       ·have o1:(((wd r1 0:Int)%2) == 1)=true:=by
          have:(wd r1 0:Int)%2=1:=by omega
          rw[this];rfl
        have o2:((Int.tmod (wd r1 0:Int) 2) == 1)=true:=by
         rw[Int.tmod_eq_emod_of_nonneg (by omega)]
         exact o1
        have o3:(wd r1 0:Int)%2=1:=by omega
        have hR:=HRT.out
        rw[if_pos HOK.out,if_pos h2] at hR
        obtain⟨R,hRR⟩:=exzb ((0+PN-r1)%PN)
        have KSR:Hid (∀ w,Calls Tryz.prog 114 #[.agg #[.int .u64 (wd x0 0:Int),.int .u64 (wd x0 1:Int),.int .u64 (wd x0 2:Int),.int .u64 (wd x0 3:Int)],.agg #[.int .u64 (wd r1 0:Int),.int .u64 (wd r1 1:Int),.int .u64 (wd r1 2:Int),.int .u64 (wd r1 3:Int)]] w fun e w'=>e=.returned (.agg #[.int .u64 (wd R 0:Int),.int .u64 (wd R 1:Int),.int .u64 (wd R 2:Int),.int .u64 (wd R 3:Int)])∧Below w.heap.size w w'):=fun w=>by
         have h:=KS0.out w
         rw[hRR] at h
         exact h
        rw[hRR] at hR
        have HR:=Lh hR
        clear hod h2 hR hRR
        go_wp2_with fail
        obtain⟨⟨p0,p1,p2,p3⟩,g0,g1,g2,g3⟩:=Aq RO.out
        go_region_law (first
         | (go_simp;go_at_call 68;go_must (refine (S0.out _).mono ?_);rintro e w7 ⟨rfl,hb7⟩
            have ro7:=AH hb7 RO.out.drew (Nat.le_refl _)
            obtain⟨⟨k0,k1,k2,k3⟩,f0,f1,f2,f3⟩:=Aq ro7)
         | (go_simp;go_at_call 114;go_must (refine (KSR.out _).mono ?_);rintro e w8 ⟨rfl,hb8⟩
            have ro8:=AH hb8 ro7 (Nat.le_refl _)
            obtain⟨⟨m0,m1,m2,m3⟩,h0,h1,h2,h3⟩:=Aq ro8))
        all_goals
         have hz7:U.heap.size≤w7.heap.size:=hb7.size
         have hz8:=hb8.size
         have ro9:=AN (n:=R) ro8
         have rr9:=AT ((AH hb8 (AH hb7 RR.out.drew (Nat.le_refl _)) (Nat.le_refl _)).far (c:=b5) (v0:=.int .u64 (wd R 0:Int)) (v1:=.int .u64 (wd R 1:Int)) (v2:=.int .u64 (wd R 2:Int)) (v3:=.int .u64 (wd R 3:Int)) (by omega))
         have rb9:=Bh (AE hb8 (AE hb7 (Dc RB.out) (Nat.le_refl _)) (Nat.le_refl _)) (v0:=.int .u64 (wd R 0:Int)) (v1:=.int .u64 (wd R 1:Int)) (v2:=.int .u64 (wd R 2:Int)) (v3:=.int .u64 (wd R 3:Int)) (b:=b5) (by omega)
         clear RO RR RB hb7 hb8 ro7 ro8 p0 p1 p2 p3 g0 g1 g2 g3 k0 k1 k2 k3 f0 f1 f2 f3 m0 m1 m2 m3 h0 h1 h2 h3 s0 s1 s2 s3
         generalize (((w8.setCell ⟨b5,0,none⟩ (.int .u64 (wd R 0:Int))).setCell ⟨b5,1,none⟩ (.int .u64 (wd R 1:Int))).setCell ⟨b5,2,none⟩ (.int .u64 (wd R 2:Int))).setCell ⟨b5,3,none⟩ (.int .u64 (wd R 3:Int))=Y9 at *
         obtain⟨⟨p0,p1,p2,p3⟩,_⟩:=Aq ro9
         obtain⟨⟨d0,d1,d2,d3⟩,e0,e1,e2,e3⟩:=Aq rr9
         have KLd:=Lh (BU (AN (n:=R) rr9))
         have BR:=Lh (Bh rb9 (v0:=.int .u64 (wd R 0:Int)) (v1:=.int .u64 (wd R 1:Int)) (v2:=.int .u64 (wd R 2:Int)) (v3:=.int .u64 (wd R 3:Int)) (b:=w.heap.size+1) (by omega))
         clear ro9 rr9 rb9
         go_wp2_with fail
         exact bodyPost_ret (AC Tryz.results70 (by rfl) (by rfl) KLd.out) rfl ⟨by rw[HR.out,HOK.out];rfl,BR.out⟩
       ·have o3:(wd r1 0:Int)%2=0:=by omega
        have o1:(((wd r1 0:Int)%2) == 1)=false:=by rw[o3];rfl
        have o2:((Int.tmod (wd r1 0:Int) 2) == 1)=false:=by
         rw[Int.tmod_eq_emod_of_nonneg (by omega)]
         exact o1
        have hR:=HRT.out
        rw[if_pos HOK.out,if_neg h2] at hR
        have HR:=Lh hR
        have rr9:=AT RR.out
        obtain⟨⟨d0,d1,d2,d3⟩,e0,e1,e2,e3⟩:=Aq rr9
        have KLd:=Lh (BU (AN (n:=r1) rr9))
        have BR:=Lh (Bh RB.out (v0:=.int .u64 (wd r1 0:Int)) (v1:=.int .u64 (wd r1 1:Int)) (v2:=.int .u64 (wd r1 2:Int)) (v3:=.int .u64 (wd r1 3:Int)) (b:=w.heap.size+1) (by omega))
        clear hod h2 hR rr9 RO RR RB
        go_wp2_with fail
        exact bodyPost_ret (AC Tryz.results70 (by rfl) (by rfl) KLd.out) rfl ⟨by rw[HR.out,HOK.out];rfl,BR.out⟩
   ·have hok':O3 a=false:=by simpa using hok
    rw[hok']
    have hR:=HRT.out
    rw[if_neg hok] at hR
    have HR:=Lh (And.intro hR hok')
    have rr9:=AT rr
    obtain⟨⟨d0,d1,d2,d3⟩,e0,e1,e2,e3⟩:=Aq rr9
    have hbU:=rb.size
    have KLd:=Lh (BU (CE (Gr (v0:=.int .u64 0) (v1:=.int .u64 0) (v2:=.int .u64 0) (v3:=.int .u64 0) rr9)))
    have BR:=Lh (Bh rb (v0:=.int .u64 0) (v1:=.int .u64 0) (v2:=.int .u64 0) (v3:=.int .u64 0) (b:=w.heap.size+1) (by omega))
    clear hok hok' hR rr9 ra rr rb
    go_wp2_with fail
    exact bodyPost_ret (AC Tryz.results70 (by rfl) (by rfl) KLd.out) rfl ⟨by rw[HR.out.1,HR.out.2];rfl,BR.out⟩
theorem eE:2*E2=PN-1:=by decide +kernel
theorem gY:8*P3=PN+3:=by decide +kernel
theorem ia:4*P4=PN-1:=by decide +kernel
theorem jj:iV*iV%PN=PN-1:=by decide +kernel
theorem ah:PN%2=1:=by decide +kernel
theorem Uw (a:Nat) (ha:a<PN):r1N iV a*r1N iV a%PN=a↔(a^E2%PN=0∨a^E2%PN=1) :=
 Wb a (r0N a) iV E2 P3 P4 ha eE gY ia rfl jj
theorem SE (r:Nat) (hr:r<PN):(0+PN-r)%PN*((0+PN-r)%PN)%PN=r*r%PN:=by
 rw[← Nat.mul_mod]
 obtain⟨d,hd⟩:∃ d,PN=r+d:=⟨PN-r,by omega⟩
 rw[show 0+PN-r=d by omega]
 have e:d*d+PN*r=r*r+PN*d:=by
  rw[hd,Nat.add_mul,Nat.add_mul,Nat.mul_comm d r]
  omega
 have h1:(d*d+PN*r)%PN=d*d%PN:=Nat.add_mul_mod_self_left _ _ _
 have h2:(r*r+PN*d)%PN=r*r%PN:=Nat.add_mul_mod_self_left _ _ _
 rw[← h1,e,h2]
theorem Pp (a:Nat) (h:okN iV a=true):Bu iV a*Bu iV a%PN=a∧Bu iV a%2=0:=by
 have h1:r1N iV a*r1N iV a%PN=a:=by
  unfold okN at h
  exact of_decide_eq_true h
 have hl:=Pg iV a
 unfold Bu
 rw[if_pos h1]
 generalize r1N iV a=r at *
 split
 ·rename_i ho
  refine⟨by rw[SE r hl];exact h1,?_⟩
  have hp:=ah
  rw[Nat.zero_add,Nat.mod_eq_of_lt (show PN-r<PN by omega)]
  omega
 ·rename_i ho
  exact⟨h1,by omega⟩
theorem Xj (a:Nat):Bu iV a<PN:=by
 unfold Bu
 split
 ·split
  ·exact Nat.mod_lt _ Au
  ·exact Pg iV a
 ·exact Au
theorem Va (x:Nat):okN iV (x*x%PN)=true:=by
 unfold okN
 refine decide_eq_true ((Uw (x*x%PN) (Nat.mod_lt _ Au)).2 ?_)
 have e:(x*x%PN)^E2%PN=x^(E2+E2)%PN:=by
  rw[← Nat.pow_mod,← Nat.pow_two,← Nat.pow_mul,show 2*E2=E2+E2 by omega]
 rw[e]
 have h2:=eE
 have h3:=Jt
 exact aF x (E2+E2) (by omega) (by omega)
open Go.RowKit Go.Sort
theorem PA (a:Nat) (ha:a<PN):O3 a=okN iV a:=by
 have h:=Uw a ha
 unfold O3 okN
 by_cases hr:r1N iV a*r1N iV a%PN=a
 ·rw[decide_eq_true hr]
  rcases h.1 hr with h0 | h0
  ·rw[decide_eq_true h0,Bool.true_or]
  ·rw[decide_eq_true h0,Bool.or_true]
 ·rw[decide_eq_false hr]
  have h0:¬ a^E2%PN=0:=fun e=>hr (h.2 (.inl e))
  have h1:¬ a^E2%PN=1:=fun e=>hr (h.2 (.inr e))
  rw[decide_eq_false h0,decide_eq_false h1]
  rfl
theorem TC (a:Nat) (ha:a<PN):Pe iV a=Bu iV a:=by
 have h:=PA a ha
 unfold Pe Bu
 rw[h]
 by_cases hr:r1N iV a*r1N iV a%PN=a
 ·have ho:okN iV a=true:=by unfold okN;exact decide_eq_true hr
  rw[if_pos ho,if_pos hr]
 ·have ho:okN iV a=false:=by unfold okN;exact decide_eq_false hr
  rw[ho,if_neg hr]
  rfl
def rpL (X Y Z:Nat):List Value:=[.int .u64 (wd X 0:Int),.int .u64 (wd X 1:Int),.int .u64 (wd X 2:Int),.int .u64 (wd X 3:Int),.int .u64 (wd Y 0:Int),.int .u64 (wd Y 1:Int),.int .u64 (wd Y 2:Int),.int .u64 (wd Y 3:Int),.int .u64 (wd Z 0:Int),.int .u64 (wd Z 1:Int),.int .u64 (wd Z 2:Int),.int .u64 (wd Z 3:Int)]
def rpV (X Y Z:Nat):Value:=.agg (rpL X Y Z).toArray
def z12:Array Value:=#[.int .u64 0,.int .u64 0,.int .u64 0,.int .u64 0,.int .u64 0,.int .u64 0,.int .u64 0,.int .u64 0,.int .u64 0,.int .u64 0,.int .u64 0,.int .u64 0]
theorem DG (X Y Z:Nat):(rpL X Y Z).toArray.all (·.oneCell')=true:=by simp[rpL,Value.oneCell']
theorem Cn:De Tryz.prog 55 12:=⟨.inl ⟨_,Tryz.underlying55⟩,by kernel_rfl⟩
theorem AG:De Tryz.prog 23 4:=⟨.inr ⟨_,_,Tryz.underlying23⟩,by kernel_rfl⟩
theorem Kk (X Y Z:Nat) (W:World):(Instr.box 55 (rpV X Y Z)).run Tryz.prog W=.ok (.pointer (some ⟨W.heap.size,0,none⟩)) (W.alloc (.cells (rpL X Y Z).toArray 55 (0,0))):=by
 unfold rpV rpL
 go_simp
theorem Jr (a:Nat) (W:World):(Instr.box 23 (Aa a)).run Tryz.prog W=.ok (.pointer (some ⟨W.heap.size,0,none⟩)) (W.alloc (.cells (elR a) 23 (0,0))):=by
 unfold Aa elR
 go_simp
theorem FQ (W:World):(Instr.alloc 55 true (.tuple #[])).run Tryz.prog W=.ok (.pointer (some ⟨W.heap.size,0,none⟩)) (W.alloc (.cells z12 55 (0,0))):=by
 unfold z12
 go_simp
theorem Cr (W:World):(Instr.alloc 23 true (.tuple #[])).run Tryz.prog W=.ok (.pointer (some ⟨W.heap.size,0,none⟩)) (W.alloc (.cells z4 23 (0,0))):=by
 unfold z4
 go_simp
theorem bdR (a b c:Nat) (W:World):(Instr.build 55 #[(0,Aa a),(1,Aa b),(2,Aa c)]).run Tryz.prog W=.ok (rpV a b c) W:=by
 unfold Aa rpV rpL
 go_simp
theorem js (b c:Nat) (W:World):(Instr.build 55 #[(1,Aa b),(2,Aa c)]).run Tryz.prog W=.ok (rpV 0 b c) W:=by
 have h:∀ i,wd 0 i=0:=fun i=>by simp[wd]
 unfold Aa rpV rpL
 rw[h,h,h,h]
 go_simp
theorem Nd (b:Nat) (W:World):(Instr.fieldAt 55 (.pointer (some ⟨b,0,none⟩)) 0).run Tryz.prog W=.ok (.pointer (some ⟨b,0,none⟩)) W:=by
 go_simp
theorem Ni (b:Nat) (W:World):(Instr.fieldAt 55 (.pointer (some ⟨b,0,none⟩)) 1).run Tryz.prog W=.ok (.pointer (some ⟨b,4,none⟩)) W:=by
 go_simp
theorem UJ (b:Nat) (W:World):(Instr.fieldAt 55 (.pointer (some ⟨b,0,none⟩)) 2).run Tryz.prog W=.ok (.pointer (some ⟨b,8,none⟩)) W:=by
 go_simp
theorem Yh (w:World) (x0 x1 x2 x3 y0 y1 y2 y3:Int):(Op.equalIn 10000 23 (.agg #[.int .u64 x0,.int .u64 x1,.int .u64 x2,.int .u64 x3]) (.agg #[.int .u64 y0,.int .u64 y1,.int .u64 y2,.int .u64 y3])).run Tryz.prog w=.ok (x0 == y0 && (x1 == y1 && (x2 == y2 && x3 == y3))) w:=by
 have he:∀ (a b:Int) (w:World),(Op.equalIn 9999 22 (.int .u64 a) (.int .u64 b)).run Tryz.prog w=.ok (a == b) w:=fun a b w=>run_equalIn_int w 9998 22 .u64 .u64 a b Tryz.underlying22
 rw[show (10000:Nat)=9999+1 from rfl,Op.equalIn]
 simp only[Sem.run_bind,run_underlying Tryz.underlying23,Result.andThen_ok]
 have hp:∀ (v:Value) (k:Nat) (xs:Array Value) (w:World),xs[k]?=some v→(part 22 xs k).run Tryz.prog w=.ok v w:=fun v k xs w h=>by
  simp only[part]
  go_simp
 have hz:∀ w,(sizeOf 22).run Tryz.prog w=.ok 1 w:=Tryz.sizeOf22
 rw[hz]
 simp only[Result.andThen_ok]
 rw[Std.Legacy.Range.forIn_eq_forIn_range']
 simp[Std.Legacy.Range.size,List.range']
 have a0:=fun w=>hp (.int .u64 x0) 0 #[.int .u64 x0,.int .u64 x1,.int .u64 x2,.int .u64 x3] w rfl
 have b0:=fun w=>hp (.int .u64 y0) 0 #[.int .u64 y0,.int .u64 y1,.int .u64 y2,.int .u64 y3] w rfl
 have a1:=fun w=>hp (.int .u64 x1) 1 #[.int .u64 x0,.int .u64 x1,.int .u64 x2,.int .u64 x3] w rfl
 have b1:=fun w=>hp (.int .u64 y1) 1 #[.int .u64 y0,.int .u64 y1,.int .u64 y2,.int .u64 y3] w rfl
 have a2:=fun w=>hp (.int .u64 x2) 2 #[.int .u64 x0,.int .u64 x1,.int .u64 x2,.int .u64 x3] w rfl
 have b2:=fun w=>hp (.int .u64 y2) 2 #[.int .u64 y0,.int .u64 y1,.int .u64 y2,.int .u64 y3] w rfl
 have a3:=fun w=>hp (.int .u64 x3) 3 #[.int .u64 x0,.int .u64 x1,.int .u64 x2,.int .u64 x3] w rfl
 have b3:=fun w=>hp (.int .u64 y3) 3 #[.int .u64 y0,.int .u64 y1,.int .u64 y2,.int .u64 y3] w rfl
 simp only[a0,b0,a1,b1,a2,b2,a3,b3,he,Result.andThen_ok]
 generalize (x0 == y0)=c0
 generalize (x1 == y1)=c1
 generalize (x2 == y2)=c2
 generalize (x3 == y3)=c3
 cases c0 <;> cases c1 <;> cases c2 <;> cases c3 <;> simp
theorem QS (w:World) (a b:Nat) (ha:a<B64^4) (hb:b<B64^4):(Op.equalIn 10000 23 (Aa a) (Aa b)).run Tryz.prog w=.ok (decide (a=b)) w:=by
 unfold Aa
 rw[Yh,Ld a b ha hb]
theorem Kh (a b:Nat) (x y:Operand) (W:World) (ha:a<B64^4) (hb:b<B64^4):(do eqGuard .eql 23 x y (Aa a) (Aa b);binOp .eql 23 (Aa a) (Aa b):Sem Value).run Tryz.prog W=.ok (.bool (decide (a=b))) W:=by
 have h:=fun w=>QS w a b ha hb
 unfold Aa at h ⊢
 go_simp
theorem Dw (a:Nat) (ha:a<18446744073709551616) (w:World):Calls Tryz.prog 68 #[.int .u64 (a:Int)] w fun e w'=>e=.returned (Aa a)∧Below w.heap.size w w':=Fh a w ha
theorem Es (a b:Nat) (w:World) (ha:a<PN) (hb:b<PN):Calls Tryz.prog 67 #[Aa a,Aa b] w fun e w'=>e=.returned (Aa (a*b%PN))∧Below w.heap.size w w':=JW a b w (Bv ha) (Bv hb)
theorem TW (a b:Nat) (w:World) (ha:a<PN) (hb:b<PN):Calls Tryz.prog 128 #[Aa a,Aa b] w fun e w'=>e=.returned (Aa ((a+b)%PN))∧Below w.heap.size w w':=UX a b w (Bv ha) (Bv hb)
theorem Qj (a b:Nat) (w:World) (ha:a<PN) (hb:b<PN):Calls Tryz.prog 114 #[Aa a,Aa b] w fun e w'=>e=.returned (Aa ((a+PN-b)%PN))∧Below w.heap.size w w':=N9 a b w (Bv ha) (Bv hb) (Nat.le_trans (Nat.le_of_lt hb) (Nat.le_add_left _ _))
theorem Uu (a:Nat) (w:World) (ha:a<PN):Calls Tryz.prog 69 #[Aa a] w fun e w'=>e=.returned (Aa (IV a))∧Below w.heap.size w w':=ZH a w ha
theorem MO (a:Nat) (w:World) (ha:a<PN):Calls Tryz.prog 70 #[Aa a] w fun e w'=>e=.returned (.tuple #[Aa (Bu iV a),.bool (okN iV a)])∧Below w.heap.size w w':=by
 have h:=Wk a w ha
 rw[PA a ha,TC a ha] at h
 exact h
theorem X6 (a:Nat) (w:World) (ha:a<PN):Calls Tryz.prog 79 #[Aa a] w fun e w'=>e=.returned (.tuple #[Aa (Bu iV a),.bool (okN iV a)])∧Below w.heap.size w w':=Wt iV eF iI a w ha
theorem BI (a:Nat):Bu iV a<PN:=Xj a
def LN:Nat:=7237005577332262213973186563042994240857116359379907606001950938285454250989
def eN:Nat:=36511546405176775671712865833542457120274604
def QX (x1 y1 z1 x2 y2 z2:Nat):Nat:=z1*z2%PN*((x1*y2+y1*x2)%PN)%PN*((z1*z2%PN*(z1*z2%PN)%PN+PN-dN*(x1*x2%PN*(y1*y2%PN)%PN)%PN)%PN)%PN
def Q7 (x1 y1 z1 x2 y2 z2:Nat):Nat:=z1*z2%PN*((y1*y2+x1*x2)%PN)%PN*((z1*z2%PN*(z1*z2%PN)%PN+dN*(x1*x2%PN*(y1*y2%PN)%PN)%PN)%PN)%PN
def PR (x1 y1 z1 x2 y2 z2:Nat):Nat:=(z1*z2%PN*(z1*z2%PN)%PN+PN-dN*(x1*x2%PN*(y1*y2%PN)%PN)%PN)%PN*((z1*z2%PN*(z1*z2%PN)%PN+dN*(x1*x2%PN*(y1*y2%PN)%PN)%PN)%PN)%PN
theorem Mx (x1 y1 z1 x2 y2 z2:Nat) (p q:Fp × Fp) (hp:On p) (hq:On q) (h1:Rep (fz x1) (fz y1) (fz z1) p) (h2:Rep (fz x2) (fz y2) (fz z2) q) :
    Rep (fz (QX x1 y1 z1 x2 y2 z2)) (fz (Q7 x1 y1 z1 x2 y2 z2)) (fz (PR x1 y1 z1 x2 y2 z2)) (Bj p q):=by
 have h:=bL (fz x1) (fz y1) (fz z1) (fz x2) (fz y2) (fz z2) p q hp hq h1 h2
 have hs:∀ a b:Nat,fz (a+PN-b%PN)=fz a-fz b:=fun a b=>by rw[LW _ _ (Nat.le_of_lt (Nat.mod_lt _ Au)),Cg]
 unfold QX Q7 PR
 simp only[Cg,CB,hs,H9]
 exact h
def tmX:Nat→Nat→Nat→Nat→Nat→Nat→Nat→Nat→Nat × Nat × Nat
 | 0,_,_,_,_,X,Y,Z=>(X,Y,Z)
 | f+1,e,x,y,z,X,Y,Z=>bif Nat.beq (e%2) 1 then tmX f (e/2) (QX x y z x y z) (Q7 x y z x y z) (PR x y z x y z) (QX X Y Z x y z) (Q7 X Y Z x y z) (PR X Y Z x y z)
   else tmX f (e/2) (QX x y z x y z) (Q7 x y z x y z) (PR x y z x y z) X Y Z
theorem NS (p:Fp × Fp) (hp:On p) (n:Nat):AB (2*n) p=AB n (Bj p p):=by
 rw[Nat.mul_comm,EW p hp 2 n]
 congr 1
 show Bj (Bj Ci p) p=_
 rw[Da Ci p,Dq p hp]
theorem OA:∀ (f e x y z X Y Z:Nat) (p q:Fp × Fp),e<2^f→On p→On q→Rep (fz x) (fz y) (fz z) p→Rep (fz X) (fz Y) (fz Z) q →
    Rep (fz (tmX f e x y z X Y Z).1) (fz (tmX f e x y z X Y Z).2.1) (fz (tmX f e x y z X Y Z).2.2) (Bj q (AB e p))
 | 0,e,x,y,z,X,Y,Z,p,q,he,hp,hq,_,h2=>by
   have:e=0:=by simp at he;omega
   subst this
   show Rep (fz X) (fz Y) (fz Z) (Bj q Ci)
   rw[Dq q hq]
   exact h2
 | f+1,e,x,y,z,X,Y,Z,p,q,he,hp,hq,h1,h2=>by
   have he2:e/2<2^f:=by rw[Nat.pow_succ] at he;omega
   have hd:=Mx x y z x y z p p hp hp h1 h1
   have hdp:=Fw p p hp hp
   by_cases hb:e%2=1
   ·have ee:AB e p=Bj (AB (e/2) (Bj p p)) p:=by
      rw[← NS p hp,show e=2*(e/2)+1 by omega]
      rw[show (2*(e/2)+1)/2=e/2 by omega]
      rfl
    have IH:=OA f (e/2) _ _ _ _ _ _ (Bj p p) (Bj q p) he2 hdp (Fw q p hq hp) hd (Mx X Y Z x y z q p hq hp h2 h1)
    rw[Cz _ _ _ hq hp (Cc _ hdp _),Da p (AB _ _),← ee] at IH
    unfold tmX
    rw[hb]
    exact IH
   ·have hb0:e%2=0:=by omega
    have ee:AB e p=AB (e/2) (Bj p p):=by
     rw[← NS p hp,show 2*(e/2)=e by omega]
    have IH:=OA f (e/2) _ _ _ X Y Z (Bj p p) q he2 hdp hq hd h2
    rw[← ee] at IH
    unfold tmX
    rw[hb0]
    exact IH
def bX:Nat:=15112221349535400772501151409588531511454012693041857206046113283949847762202
def bY:Nat:=46316835694926478169428394003475163141307993866256225615783033603165251855960
def BD:Fp × Fp:=(fz bX,fz bY)
theorem OK:(bY*bY+PN-bX*bX%PN)%PN=(1+dN*(bX*bX%PN)%PN*(bY*bY%PN))%PN∧bY*5%PN=4∧bX%2=0∧bX<PN∧bY<PN:=by decide +kernel
theorem Dj:On BD:=by
 have h:=congrArg fz OK.1
 have hs:∀ a b:Nat,fz (a+PN-b%PN)=fz a-fz b:=fun a b=>by rw[LW _ _ (Nat.le_of_lt (Nat.mod_lt _ Au)),Cg]
 simp only[Cg,CB,hs,H9,Hf] at h
 exact h
theorem Gm:Rep (fz bX) (fz bY) (fz 1) BD:=⟨by
 intro h
 rw[FD] at h
 revert h
 decide +kernel,Lean.Grind.Semiring.mul_one _,Lean.Grind.Semiring.mul_one _⟩
theorem Lw:Rep (fz 0) (fz 1) (fz 1) Ci:=⟨Gm.1,Lean.Grind.Semiring.mul_one _,Lean.Grind.Semiring.mul_one _⟩
theorem aO:(tmX 253 LN bX bY 1 0 1 1).1%PN=0∧(tmX 253 LN bX bY 1 0 1 1).2.1%PN=(tmX 253 LN bX bY 1 0 1 1).2.2%PN:=by decide +kernel
theorem Ze:AB LN BD=Ci:=by
 have h:=OA 253 LN bX bY 1 0 1 1 BD Ci (by decide +kernel) Dj FI Gm Lw
 obtain⟨n1,n2⟩:=aO
 generalize tmX 253 LN bX bY 1 0 1 1=t at *
 rw[Da,Dq _ (Cc _ Dj _)] at h
 obtain⟨h1,h2,h3⟩:=h
 have e1:fz t.1=0:=(FD _).2 n1
 have e2:fz t.2.1=fz t.2.2:=by rw[← Cg,n2,Cg]
 rw[e1] at h2
 rw[e2] at h3
 refine Prod.ext ?_ (Gu _ _ _ h1 ?_)
 ·rcases O0 _ _ h2 with h | h
  ·exact h
  ·exact absurd h h1
 ·rw[h3]
  exact (Lean.Grind.Semiring.one_mul _).symm
end Go.Proofs.YtnaldciakclccaaGreat
