/- Lemmas of this proof. -/
import Derived.Laws.MathBits
import Derived.Lib.ItoaNum
import Derived.Deep.LoopGhost
import Derived.Deep.AppendLies
import Derived.Test.YtnaldciakclccaaGreatEv03
import Derived.Test.YtnaldciakclccaaGreatEv01
import Derived.Test.YtnaldciakclccaaGreatShelfLen
namespace Go.Proofs.YtnaldciakclccaaGreat
set_option maxRecDepth 20000
set_option maxHeartbeats 8000000
set_option linter.unusedSimpArgs false
set_option linter.unusedVariables false
open Go.RowKit
theorem P1 (n i:Nat) (h:n/B64^(i+1)=0):n/B64^i=wd n i:=by
 have:=EL n i
 rw[h] at this
 omega
theorem MC (x:Nat) (h:x<2^64):Lib.bitLen x=Go.bitLen x:=by
 show Lib.bitLenAux 64 x=_
 by_cases h0:x=0
 ·subst h0;rw[Lib.bitLenAux_zero];rfl
 ·obtain⟨a,b,c⟩:=Lib.bitLenAux_bounds 64 x h h0
  obtain⟨c',b'⟩:=bitLen_spec x
  have b':=b' h0
  generalize Lib.bitLenAux 64 x=L at *
  generalize bitLen x=M at *
  have h1:L-1<M:=(Nat.pow_lt_pow_iff_right (by decide:1<2)).1 (Nat.lt_of_le_of_lt b c')
  have h2:M-1<L:=(Nat.pow_lt_pow_iff_right (by decide:1<2)).1 (Nat.lt_of_le_of_lt b' c)
  omega
theorem ae (n i:Nat) (h:n/B64^(i+1)=0) (h0:wd n i≠0):Go.bitLen n=64*i+Go.bitLen (wd n i):=by
 have h1:=P1 n i h
 have h2:B64^i=2^(64*i):=by rw[show B64=2^64 from rfl,← Nat.pow_mul]
 rw[← h1] at h0 ⊢
 rw[h2] at h0 ⊢
 exact bitLen_shift n (64*i) h0
theorem P5 (x:Nat) (h:x<18446744073709551616):Go.bitLen x≤64:=by
 obtain⟨_,b⟩:=bitLen_spec x
 by_cases h0:x=0
 ·subst h0;decide
 ·have:Go.bitLen x-1<64:=(Nat.pow_lt_pow_iff_right (by decide:1<2)).1 (Nat.lt_of_le_of_lt (b h0) h)
  omega
theorem K9 (n:Nat) (w:World) (hn:n<B64^4) :
    Calls Tryz.prog 159 #[Aa n] w fun e w'=>e=.returned (.int .i64 (Go.bitLen n:Int))∧Below w.heap.size w w':=by
 rw[show Aa n=.agg #[.int .u64 (wd n 0:Int),.int .u64 (wd n 1:Int),.int .u64 (wd n 2:Int),.int .u64 (wd n 3:Int)] from rfl]
 have x0:(w.alloc (.cells (An n).toArray 24)).heap[w.heap.size]?=some (.cells (An n).toArray 24 (0,0)):=Aj _ _
 have x1:Below w.heap.size w (w.alloc (.cells (An n).toArray 24)):=Al (Below.refl _ _) _
 go_enter Tryz.func159,Tryz.ntmps159
 go_wp2_with fail
 change Code.wp _ _ _ _ (w.alloc (.cells (An n).toArray 24))
 generalize w.alloc (.cells (An n).toArray 24)=X at *
 go_loopw [3] (fun i wr=>∃ c:Nat,c≤4∧i=.int .i64 (kI c)∧n/B64^c=0∧∃ nq,X.drewN nq=wr) (fun i _=>(intOf i+1).toNat)
 case atStart=>exact⟨4,by omega,rfl,Nat.div_eq_of_lt hn,0,rfl⟩
 case round =>
  obtain⟨c,hc,rfl,hz,nq,rfl⟩:=hrel
  match c,hc with
  | 0,_ =>
    have HE:=Lh (show Go.bitLen n=0 by
     rw[Nat.pow_zero,Nat.div_one] at hz
     rw[hz];rfl)
    rw[show kI 0 = -1 from rfl]
    clear hz x0
    go_wp2_with fail
    go_ret
    exact⟨BE (by rw[HE.out];rfl),AV x1 nq⟩
  | d+1,hc =>
    rw[show kI (d+1)=(d:Int) by unfold kI;omega]
    have d3:(d:Int)<4:=by omega
    have d4:¬ (4:Int)≤(d:Int):=by omega
    have c0:(X.drewN nq).cell? ⟨w.heap.size,d,none⟩=some (.int .u64 (wd n d:Int)):=(Af x0 (Ai n d (by omega))).1
    have hw:=Cb n d
    by_cases he:wd n d=0
    ·have HS:=Lh (show n/B64^d=0 from (P1 n d hz).trans he)
     rw[he] at c0
     clear hz x0 he hw
     go_wp2_with fail
     go_roundw
     case rel=>exact⟨d,by omega,rfl,HS.out,_,rfl⟩
     case measure=>simp[intOf]
    ·have HE:=Lh (ae n d hz he)
     have q1:¬ ((wd n d:Int)=0):=by omega
     have q2:decide ((wd n d:Int)=0)=false:=by simpa using q1
     have q3:((wd n d:Int) == 0)=false:=by simpa using q1
     clear hz x0 he
     generalize hx:wd n d=x at *
     have BL:=Lh (fun w=>Tryz.bits_Len64 (x:Int) w (by omega) (by omega))
     clear hx
     go_wp2_with fail
     refine (BL.out _).mono ?_
     rintro e w' ⟨rfl,rfl⟩
     have hbl:Lib.bitLen (x:Int).toNat≤64:=by rw[Int.toNat_natCast,MC x hw];exact P5 x hw
     have HB:=Lh (show Lib.bitLen (x:Int).toNat=Go.bitLen x by rw[Int.toNat_natCast,MC x hw])
     generalize Lib.bitLen (x:Int).toNat=y at *
     have hbl2:(y:Int)≤64:=by omega
     go_wp2_with fail
     go_ret
     exact⟨BE (by have:=HE.out;have:=HB.out;omega),AV x1 nq⟩
def A4 (q:Nat):Prop:=2≤q∧∀ a b,q ∣ a*b→q ∣ a∨q ∣ b
def pm (n:Nat):Nat→Nat→Nat→Nat→Nat
 | 0,_,_,acc=>acc
 | f+1,e,b,acc=>pm n f (e/2) (b*b%n) (bif Nat.beq (e%2) 1 then acc*b%n else acc)
theorem Z8 (b e:Nat):b^e=(b*b)^(e/2)*b^(e%2):=by
 rw[← Nat.pow_two,← Nat.pow_mul,← Nat.pow_add,Nat.div_add_mod]
theorem PU (n:Nat):∀ f e b acc,e<2^f→pm n f e b acc%n=acc*b^e%n
 | 0,e,b,acc,h=>by
   have h0:e=0:=by simp at h;omega
   subst h0
   simp[pm]
 | f+1,e,b,acc,h=>by
   have h2:e/2<2^f:=by rw[Nat.pow_succ] at h;omega
   unfold pm
   rw[PU n f _ _ _ h2,Z8 b e,Nat.mul_mod,Nat.pow_mod,Nat.mod_mod,← Nat.pow_mod]
   by_cases hb:e%2=1
   ·rw[hb]
    show ((acc*b%n)%n*((b*b)^(e/2)%n))%n=_
    rw[Nat.mod_mod,← Nat.mul_mod,Nat.pow_one]
    congr 1
    rw[Nat.mul_assoc,Nat.mul_comm b]
   ·have h0:e%2=0:=by omega
    rw[h0]
    show (acc%n*((b*b)^(e/2)%n))%n=_
    rw[← Nat.mul_mod,Nat.pow_zero,Nat.mul_one]
theorem Ki:∀ (L:List Nat),(∀ q ∈ L,A4 q)→∀ k o,k*o=L.prod→(∀ q ∈ L,¬ q ∣ k)→k=1
 | [],_,k,o,h,_=>by
   have h1:k*o=1:=by simpa using h
   exact Nat.dvd_one.1 ⟨o,h1.symm⟩
 | q::L,hp,k,o,h,hn=>by
   rw[List.prod_cons] at h
   have hq:=hp q (List.mem_cons_self)
   have hd:q ∣ k*o:=⟨L.prod,h⟩
   rcases hq.2 k o hd with h1 | h1
   ·exact absurd h1 (hn q List.mem_cons_self)
   ·obtain⟨o',rfl⟩:=h1
    refine Ki L (fun x hx=>hp x (List.mem_cons_of_mem _ hx)) k o' ?_ fun x hx=>hn x (List.mem_cons_of_mem _ hx)
    have h2:q*(k*o')=q*L.prod:=by rw[← h,← Nat.mul_assoc,← Nat.mul_assoc,Nat.mul_comm q k]
    exact Nat.eq_of_mul_eq_mul_left (by have:=hq.1;omega) h2
theorem UI:∀ (m:Nat) (f:Nat→Nat),(∀ i,i<m→f i<m)→(∀ i j,i<m→j<m→f i=f j→i=j)→∀ y,y<m→∃ i,i<m∧f i=y
 | 0,_,_,_,_,hy=>absurd hy (by omega)
 | m+1,f,hf,hi,y,hy=>by
   have IH:=UI m (fun i=>if f i=m then f m else f i) (fun i h=>by
    show (if f i=m then f m else f i)<m
    have h1:=hf i (by omega)
    have h2:=hf m (by omega)
    by_cases h:f i=m
    ·rw[if_pos h]
     have:f m≠m:=fun e=>by have:=hi i m (by omega) (by omega) (by rw[h,e]);omega
     omega
    ·rw[if_neg h]
     omega) (fun i j h1 h2 h3=>by
    replace h3:(if f i=m then f m else f i)=(if f j=m then f m else f j):=h3
    by_cases a:f i=m
    ·by_cases b:f j=m
     ·exact hi i j (by omega) (by omega) (by rw[a,b])
     ·rw[if_pos a,if_neg b] at h3
      have:=hi m j (by omega) (by omega) h3
      omega
    ·by_cases b:f j=m
     ·rw[if_neg a,if_pos b] at h3
      have:=hi i m (by omega) (by omega) h3
      omega
     ·rw[if_neg a,if_neg b] at h3
      exact hi i j (by omega) (by omega) h3)
   have hm:=hf m (by omega)
   by_cases hym:y=f m
   ·exact⟨m,by omega,hym.symm⟩
   ·by_cases hy2:y=m
    ·subst hy2
     obtain⟨i,h1,h2⟩:=IH (f y) (by omega)
     replace h2:(if f i=y then f y else f i)=f y:=h2
     by_cases a:f i=y
     ·exact⟨i,by omega,a⟩
     ·rw[if_neg a] at h2
      have:=hi i y (by omega) (by omega) h2
      omega
    ·obtain⟨i,h1,h2⟩:=IH y (by omega)
     replace h2:(if f i=m then f m else f i)=y:=h2
     by_cases a:f i=m
     ·rw[if_pos a] at h2
      exact absurd h2.symm hym
     ·rw[if_neg a] at h2
      exact⟨i,by omega,h2⟩
theorem Ig {n g o:Nat} (h:g^o%n=1%n) (k:Nat):g^(o*k)%n=1%n:=by
 rw[Nat.pow_mul,Nat.pow_mod,h,← Nat.pow_mod,Nat.one_pow]
theorem Ks {n g o:Nat} (h:g^o%n=1%n) (k:Nat):g^(o+k)%n=g^k%n:=by
 rw[Nat.pow_add,Nat.mul_mod,h,← Nat.mul_mod,Nat.one_mul]
theorem g8:∀ (P:Nat→Prop),(∃ n,P n)→∃ n,P n∧∀ m,m<n→¬ P m:=fun P h=>by
 obtain⟨n,hn⟩:=h
 induction n using Nat.strongRecOn with
 | ind n ih =>
   by_cases hx:∃ m,m<n∧P m
   ·obtain⟨m,h1,h2⟩:=hx
    exact ih m h1 h2
   ·exact⟨n,hn,fun m h1 h2=>hx ⟨m,h1,h2⟩⟩
theorem So (n g:Nat) (L:List Nat) (hn:2≤n) (hL:n-1=L.prod) (hp:∀ q ∈ L,A4 q) (h1:g^(n-1)%n=1%n) (hq:∀ q ∈ L,g^((n-1)/q)%n≠1%n):∀ d,0<d→d<n-1→g^d%n≠1%n:=by
 obtain⟨o,⟨ho0,ho1⟩,hmin⟩:=g8 (fun d=>0<d∧g^d%n=1%n) ⟨n-1,by omega,h1⟩
 have hr:(n-1)%o=0:=by
  rcases Nat.eq_zero_or_pos ((n-1)%o) with h | h
  ·exact h
  ·refine absurd ⟨h,?_⟩ (hmin _ (Nat.mod_lt _ ho0))
   have e:g^(n-1)%n=g^((n-1)%o)%n:=by
    conv=>lhs;rw[← Nat.div_add_mod (n-1) o]
    exact Ks (Ig ho1 _) _
   rw[← e]
   exact h1
 obtain⟨k,hk⟩:=Nat.dvd_of_mod_eq_zero hr
 have hk1:k=1:=by
  refine Ki L hp k o (by rw[← hL,hk,Nat.mul_comm]) fun q hqL hd=>?_
  obtain⟨k',rfl⟩:=hd
  have hq2:=(hp q hqL).1
  refine hq q hqL ?_
  have e:(n-1)/q=o*k':=by
   rw[hk,show o*(q*k')=q*(o*k') by rw[← Nat.mul_assoc,Nat.mul_comm o q,Nat.mul_assoc],Nat.mul_div_cancel_left _ (by omega)]
  rw[e]
  exact Ig ho1 _
 subst hk1
 rw[Nat.mul_one] at hk
 intro d hd0 hd1 hd
 exact hmin d (by omega) ⟨hd0,hd⟩
theorem Lr {n:Nat} (hn:2≤n):1%n=1:=Nat.mod_eq_of_lt (by omega)
theorem I9 (n g:Nat) (hn:2≤n) (h1:g^(n-1)%n=1%n) (hd:∀ d,0<d→d<n-1→g^d%n≠1%n) (i j:Nat) (hij:i<j) (hj:j<n-1):g^i%n≠g^j%n:=fun h=>by
 refine hd (j-i) (by omega) (by omega) ?_
 have e1:g^(n-1-i)*g^i%n=1%n:=by rw[← Nat.pow_add,show n-1-i+i=n-1 by omega];exact h1
 have e2:g^(n-1-i)*g^j%n=g^(j-i)%n:=by
  rw[← Nat.pow_add,show n-1-i+j=n-1+(j-i) by omega]
  exact Ks h1 _
 rw[← e2,Nat.mul_mod,← h,← Nat.mul_mod,e1]
theorem Io (n g:Nat) (hn:2≤n) (h1:g^(n-1)%n=1%n) (i:Nat) (hi:i≤n-1):0<g^i%n:=by
 rcases Nat.eq_zero_or_pos (g^i%n) with h | h
 ·have e1:g^(n-1-i)*g^i%n=1%n:=by rw[← Nat.pow_add,show n-1-i+i=n-1 by omega];exact h1
  rw[Nat.mul_mod,h,Nat.mul_zero,Nat.zero_mod,Lr hn] at e1
  omega
 ·exact h
theorem Tm (n g:Nat) (hn:2≤n) (h1:g^(n-1)%n=1%n) (hd:∀ d,0<d→d<n-1→g^d%n≠1%n) (a:Nat) (ha:a%n≠0):∃ i,i<n-1∧g^i%n=a%n:=by
 have hlt:=Nat.mod_lt a (show 0<n by omega)
 obtain⟨i,hi,he⟩:=UI (n-1) (fun i=>g^i%n-1) (fun i hi=>by
  show g^i%n-1<n-1
  have:=Io n g hn h1 i (by omega)
  have:=Nat.mod_lt (g^i) (show 0<n by omega)
  omega) (fun i j hi hj h=>by
  replace h:g^i%n-1=g^j%n-1:=h
  have p1:=Io n g hn h1 i (by omega)
  have p2:=Io n g hn h1 j (by omega)
  have e:g^i%n=g^j%n:=by omega
  rcases Nat.lt_trichotomy i j with hl | hl | hl
  ·exact absurd e (I9 n g hn h1 hd i j hl hj)
  ·exact hl
  ·exact absurd e.symm (I9 n g hn h1 hd j i hl hi)) (a%n-1) (by omega)
 replace he:g^i%n-1=a%n-1:=he
 have p1:=Io n g hn h1 i (by omega)
 exact⟨i,hi,by omega⟩
theorem NG (n g:Nat) (hn:2≤n) (h1:g^(n-1)%n=1%n) (hd:∀ d,0<d→d<n-1→g^d%n≠1%n) (a:Nat) (ha:a%n≠0):a^(n-1)%n=1%n:=by
 obtain⟨i,_,he⟩:=Tm n g hn h1 hd a ha
 rw[Nat.pow_mod,← he,← Nat.pow_mod,← Nat.pow_mul,Nat.mul_comm]
 exact Ig h1 i
theorem Qz (n g:Nat) (hn:2≤n) (h1:g^(n-1)%n=1%n) (hd:∀ d,0<d→d<n-1→g^d%n≠1%n):A4 n:=by
 refine⟨hn,fun a b h=>?_⟩
 by_cases ha:a%n=0
 ·exact .inl (Nat.dvd_of_mod_eq_zero ha)
 ·refine .inr (Nat.dvd_of_mod_eq_zero ?_)
  have hf:=NG n g hn h1 hd a ha
  have e:a^(n-1-1)*(a*b)%n=b%n:=by
   rw[← Nat.mul_assoc,← Nat.pow_succ,show (n-1-1).succ=n-1 from (by omega:n-1-1+1=n-1),Nat.mul_mod,hf,← Nat.mul_mod,Nat.one_mul]
  rw[← e,Nat.mul_mod,Nat.mod_eq_zero_of_dvd h,Nat.mul_zero,Nat.zero_mod]
def cert (n g:Nat) (L:List Nat):Bool:=Nat.beq (L.prod+1) n && Nat.beq (pm n 256 (n-1) g 1%n) 1 && L.all fun q=>!Nat.beq (pm n 256 ((n-1)/q) g 1%n) 1
theorem I0 (n g:Nat) (L:List Nat) (hn:2≤n) (hN:n<2^256) (h:cert n g L=true) (hp:∀ q ∈ L,A4 q):g^(n-1)%n=1%n∧∀ d,0<d→d<n-1→g^d%n≠1%n:=by
 unfold cert at h
 rw[Bool.and_eq_true,Bool.and_eq_true] at h
 obtain⟨⟨hL,h1⟩,hq⟩:=h
 have hL:=Nat.eq_of_beq_eq_true hL
 have h1:=Nat.eq_of_beq_eq_true h1
 rw[PU n 256 (n-1) g 1 (by omega),Nat.one_mul] at h1
 have h1':g^(n-1)%n=1%n:=by rw[h1,Lr hn]
 refine⟨h1',So n g L hn (by omega) hp h1' fun q hqL he=>?_⟩
 have hx:=List.all_eq_true.1 hq q hqL
 rw[PU n 256 ((n-1)/q) g 1 (Nat.lt_of_le_of_lt (Nat.div_le_self _ _) (by omega)),Nat.one_mul,he,Lr hn] at hx
 cases hx
theorem SR (n g:Nat) (L:List Nat) (hn:2≤n) (hN:n<2^256) (h:cert n g L=true) (hp:∀ q ∈ L,A4 q):A4 n :=
 Qz n g hn (I0 n g L hn hN h hp).1 (I0 n g L hn hN h hp).2
def e9:List Nat→Prop
 | []=>True
 | a::l=>A4 a∧e9 l
theorem Rx:∀ {l:List Nat},e9 l→∀ q ∈ l,A4 q
 | [],_,q,h=>absurd h (by simp)
 | a::l,h1,q,h=>by
   rcases List.mem_cons.1 h with h2 | h2
   ·rw[h2]
    exact h1.1
   ·exact Rx h1.2 q h2
theorem BA (n g:Nat) (L:List Nat) (hp:e9 L) (hn:2≤n:=by decide +kernel) (hN:n<2^256:=by decide +kernel) (h:cert n g L=true:=by decide +kernel):A4 n:=SR n g L hn hN h (Rx hp)
theorem AI:A4 2:=by
 refine⟨Nat.le_refl _,fun a b h=>?_⟩
 have h0:=Nat.mod_eq_zero_of_dvd h
 rw[Nat.mul_mod] at h0
 rcases Nat.mod_two_eq_zero_or_one a with e | e
 ·exact .inl (Nat.dvd_of_mod_eq_zero e)
 ·rcases Nat.mod_two_eq_zero_or_one b with f | f
  ·exact .inr (Nat.dvd_of_mod_eq_zero f)
  ·rw[e,f] at h0
   cases h0
theorem Bz:A4 3:=BA 3 2 [2] ⟨AI,trivial⟩
theorem Gg:A4 5:=BA 5 2 [2,2] ⟨AI,AI,trivial⟩
theorem Gj:A4 7:=BA 7 3 [2,3] ⟨AI,Bz,trivial⟩
theorem Ll:A4 11:=BA 11 2 [2,5] ⟨AI,Gg,trivial⟩
theorem Oc:A4 13:=BA 13 2 [2,2,3] ⟨AI,AI,Bz,trivial⟩
theorem Pm:A4 17:=BA 17 3 [2,2,2,2] ⟨AI,AI,AI,AI,trivial⟩
theorem OY:A4 19:=BA 19 2 [2,3,3] ⟨AI,Bz,Bz,trivial⟩
theorem Uj:A4 23:=BA 23 5 [2,11] ⟨AI,Ll,trivial⟩
theorem TZ:A4 29:=BA 29 2 [2,2,7] ⟨AI,AI,Gj,trivial⟩
theorem aP:A4 31:=BA 31 3 [2,3,5] ⟨AI,Bz,Gg,trivial⟩
theorem cO:A4 37:=BA 37 2 [2,2,3,3] ⟨AI,AI,Bz,Bz,trivial⟩
theorem UL:A4 41:=BA 41 6 [2,2,2,5] ⟨AI,AI,AI,Gg,trivial⟩
theorem TX:A4 43:=BA 43 3 [2,3,7] ⟨AI,Bz,Gj,trivial⟩
theorem Uc:A4 47:=BA 47 5 [2,23] ⟨AI,Uj,trivial⟩
theorem a9:A4 53:=BA 53 2 [2,2,13] ⟨AI,AI,Oc,trivial⟩
theorem dR:A4 59:=BA 59 2 [2,29] ⟨AI,TZ,trivial⟩
theorem cK:A4 83:=BA 83 2 [2,41] ⟨AI,UL,trivial⟩
theorem bv:A4 97:=BA 97 5 [2,2,2,2,2,3] ⟨AI,AI,AI,AI,AI,Bz,trivial⟩
theorem XC:A4 103:=BA 103 5 [2,3,17] ⟨AI,Bz,Pm,trivial⟩
theorem XX:A4 107:=BA 107 2 [2,53] ⟨AI,a9,trivial⟩
theorem Zk:A4 127:=BA 127 3 [2,3,3,7] ⟨AI,Bz,Bz,Gj,trivial⟩
theorem ZA:A4 131:=BA 131 2 [2,5,13] ⟨AI,Gg,Oc,trivial⟩
theorem Xl:A4 173:=BA 173 2 [2,2,43] ⟨AI,AI,TX,trivial⟩
theorem ZT:A4 223:=BA 223 3 [2,3,37] ⟨AI,Bz,cO,trivial⟩
theorem Zy:A4 239:=BA 239 7 [2,7,17] ⟨AI,Gj,Pm,trivial⟩
theorem ar:A4 353:=BA 353 3 [2,2,2,2,2,11] ⟨AI,AI,AI,AI,AI,Ll,trivial⟩
theorem XJ:A4 419:=BA 419 2 [2,11,19] ⟨AI,Ll,OY,trivial⟩
theorem Yr:A4 479:=BA 479 13 [2,239] ⟨AI,Zy,trivial⟩
theorem Zv:A4 487:=BA 487 3 [2,3,3,3,3,3] ⟨AI,Bz,Bz,Bz,Bz,Bz,trivial⟩
theorem Yn:A4 991:=BA 991 6 [2,3,3,5,11] ⟨AI,Bz,Bz,Gg,Ll,trivial⟩
theorem Vm:A4 1723:=BA 1723 3 [2,3,7,41] ⟨AI,Bz,Gj,UL,trivial⟩
theorem VO:A4 2437:=BA 2437 2 [2,2,3,7,29] ⟨AI,AI,Bz,Gj,TZ,trivial⟩
theorem WD:A4 3727:=BA 3727 3 [2,3,3,3,3,23] ⟨AI,Bz,Bz,Bz,Bz,Uj,trivial⟩
theorem VM:A4 4153:=BA 4153 5 [2,2,2,3,173] ⟨AI,AI,AI,Bz,Xl,trivial⟩
theorem Wy:A4 9463:=BA 9463 3 [2,3,19,83] ⟨AI,Bz,OY,cK,trivial⟩
theorem SZ:A4 32573:=BA 32573 2 [2,2,17,479] ⟨AI,AI,Pm,Yr,trivial⟩
theorem SW:A4 37853:=BA 37853 2 [2,2,9463] ⟨AI,AI,Wy,trivial⟩
theorem Tw:A4 57467:=BA 57467 2 [2,59,487] ⟨AI,dR,Zv,trivial⟩
theorem SY:A4 65147:=BA 65147 2 [2,32573] ⟨AI,SZ,trivial⟩
theorem Sb:A4 75707:=BA 75707 2 [2,37853] ⟨AI,SW,trivial⟩
theorem PO:A4 132049:=BA 132049 26 [2,2,2,2,3,3,7,131] ⟨AI,AI,AI,AI,Bz,Bz,Gj,ZA,trivial⟩
theorem Qt:A4 430751:=BA 430751 17 [2,5,5,5,1723] ⟨AI,Gg,Gg,Gg,Vm,trivial⟩
theorem QJ:A4 569003:=BA 569003 2 [2,7,97,419] ⟨AI,Gj,bv,XJ,trivial⟩
theorem OW:A4 1923133:=BA 1923133 2 [2,2,3,43,3727] ⟨AI,AI,Bz,TX,WD,trivial⟩
theorem Pl:A4 8574133:=BA 8574133 2 [2,2,3,7,103,991] ⟨AI,AI,Bz,Gj,XC,Yn,trivial⟩
theorem Ku:A4 2773320623:=BA 2773320623 5 [2,2437,569003] ⟨AI,VO,QJ,trivial⟩
theorem JP:A4 72106336199:=BA 72106336199 7 [2,13,2773320623] ⟨AI,Oc,Ku,trivial⟩
theorem Wd:A4 1919519569386763:=BA 1919519569386763 2 [2,3,7,19,47,47,127,8574133] ⟨AI,Bz,Gj,OY,Uc,Uc,Zk,Pl,trivial⟩
theorem Vi:A4 31757755568855353:=BA 31757755568855353 10 [2,2,2,3,31,107,223,4153,430751] ⟨AI,AI,AI,Bz,aP,XX,ZT,VM,Qt,trivial⟩
theorem U9:A4 75445702479781427272750846543864801:=BA 75445702479781427272750846543864801 7 [2,2,2,2,2,3,3,5,5,75707,72106336199,1919519569386763] ⟨AI,AI,AI,AI,AI,Bz,Bz,Gg,Gg,Sb,JP,Wd,trivial⟩
theorem WJ:A4 74058212732561358302231226437062788676166966415465897661863160754340907:=BA 74058212732561358302231226437062788676166966415465897661863160754340907 2 [2,3,353,57467,132049,1923133,31757755568855353,75445702479781427272750846543864801] ⟨AI,Bz,ar,Tw,PO,OW,Vi,U9,trivial⟩
def PN:Nat:=57896044618658097711785492504343953926634992332820282019728792003956564819949
theorem Jt:2≤PN:=by decide +kernel
theorem Au:0<PN:=by decide +kernel
theorem ii:PN<2^256:=by decide +kernel
theorem OM:2^(PN-1)%PN=1%PN∧∀ d,0<d→d<PN-1→2^d%PN≠1%PN:=I0 PN 2 [2,2,3,65147,74058212732561358302231226437062788676166966415465897661863160754340907] Jt ii (by decide +kernel) fun q hq=>by
 simp only[List.mem_cons,List.not_mem_nil,or_false] at hq
 rcases hq with rfl | rfl | rfl | rfl | rfl
 ·exact AI
 ·exact AI
 ·exact Bz
 ·exact SY
 ·exact WJ
theorem Yq:A4 PN:=Qz PN 2 Jt OM.1 OM.2
theorem K7 (a:Nat) (ha:a%PN≠0):a^(PN-1)%PN=1:=by
 rw[NG PN 2 Jt OM.1 OM.2 a ha]
 exact Lr Jt
theorem VD:PN<B64^4:=by decide +kernel
theorem JX:Aa PN=.agg #[.int .u64 18446744073709551597,.int .u64 18446744073709551615,.int .u64 18446744073709551615,.int .u64 9223372036854775807]:=by
 unfold Aa
 rw[show wd PN 0=18446744073709551597 by decide +kernel,show wd PN 1=18446744073709551615 by decide +kernel,show wd PN 2=18446744073709551615 by decide +kernel,show wd PN 3=9223372036854775807 by decide +kernel]
 rfl
theorem DE {W:World} {b n:Nat} (h:IsA W b n 24):(loadVar 24 ⟨b,0,none⟩).run Tryz.prog W=.ok (Aa n) W :=
 run_loadVar_row (P:=Tryz.prog) W b 24 24 _ (0,0) _ h Tryz.underlying24 rfl (by kernel_rfl)
theorem BU {W:World} {b n:Nat} (h:IsA W b n 23):(loadVar 23 ⟨b,0,none⟩).run Tryz.prog W=.ok (Aa n) W :=
 run_loadVar_row (P:=Tryz.prog) W b 23 23 _ (0,0) _ h Tryz.underlying23 rfl (by kernel_rfl)
theorem Cm {W:World} {b n:Nat} (h:IsA W b n 36):(loadVar 36 ⟨b,0,none⟩).run Tryz.prog W=.ok (Aa n) W :=
 run_loadVar_row (P:=Tryz.prog) W b 36 36 _ (0,0) _ h Tryz.underlying36 rfl (by kernel_rfl)
theorem AL (n:Nat):Aa n=.agg #[.int .u64 (wd n 0:Int),.int .u64 (wd n 1:Int),.int .u64 (wd n 2:Int),.int .u64 (wd n 3:Int)]:=rfl
theorem L6:Aa 0=.agg #[.int .u64 0,.int .u64 0,.int .u64 0,.int .u64 0]:=by kernel_rfl
theorem CE {W:World} {b:Nat} {t:TypeId} (h:W.heap[b]?=some (.cells #[.int .u64 0,.int .u64 0,.int .u64 0,.int .u64 0] t (0,0))):IsA W b 0 t:=by
 unfold IsA
 rw[show wd 0 0=0 by decide +kernel,show wd 0 1=0 by decide +kernel,show wd 0 2=0 by decide +kernel,show wd 0 3=0 by decide +kernel]
 exact h
theorem AT {W:World} {b:Nat} {t:TypeId} (h:IsA W b 0 t):W.heap[b]?=some (.cells #[.int .u64 0,.int .u64 0,.int .u64 0,.int .u64 0] t (0,0)):=by
 unfold IsA at h
 rw[show wd 0 0=0 by decide +kernel,show wd 0 1=0 by decide +kernel,show wd 0 2=0 by decide +kernel,show wd 0 3=0 by decide +kernel] at h
 exact h
theorem Dk {w:World} {b1 x:Nat} {t1:TypeId} (h1:IsA w b1 x t1) :
    w.cell? ⟨b1,0,none⟩=some (.int .u64 (wd x 0:Int))∧w.cell? ⟨b1,1,none⟩=some (.int .u64 (wd x 1:Int))∧w.cell? ⟨b1,2,none⟩=some (.int .u64 (wd x 2:Int))∧w.cell? ⟨b1,3,none⟩=some (.int .u64 (wd x 3:Int)):=(Aq h1).1
theorem Db {w:World} {b1 b2 x y:Nat} {t1 t2:TypeId} (h1:IsA w b1 x t1) (h2:IsA w b2 y t2) :
    w.cell? ⟨b1,0,none⟩=some (.int .u64 (wd x 0:Int))∧w.cell? ⟨b1,1,none⟩=some (.int .u64 (wd x 1:Int))∧w.cell? ⟨b1,2,none⟩=some (.int .u64 (wd x 2:Int))∧w.cell? ⟨b1,3,none⟩=some (.int .u64 (wd x 3:Int))∧w.cell? ⟨b2,0,none⟩=some (.int .u64 (wd y 0:Int))∧w.cell? ⟨b2,1,none⟩=some (.int .u64 (wd y 1:Int))∧w.cell? ⟨b2,2,none⟩=some (.int .u64 (wd y 2:Int))∧w.cell? ⟨b2,3,none⟩=some (.int .u64 (wd y 3:Int)):=by
 obtain⟨⟨p0,p1,p2,p3⟩,_⟩:=Aq h1
 obtain⟨⟨q0,q1,q2,q3⟩,_⟩:=Aq h2
 exact⟨p0,p1,p2,p3,q0,q1,q2,q3⟩
theorem Xn (w:World):Calls Tryz.prog 75 #[] w fun e w'=>e=.returned (Aa PN)∧Below w.heap.size w w':=by
 have kl:=DE (W:=w.alloc (.cells (An PN).toArray 24)) (b:=w.heap.size) (n:=PN) (Aj _ _)
 have e1:(An PN).toArray=#[.int .u64 18446744073709551597,.int .u64 18446744073709551615,.int .u64 18446744073709551615,.int .u64 9223372036854775807]:=by
  have h:=JX
  unfold Aa at h
  unfold An
  injection h
 rw[e1,JX] at kl
 rw[JX]
 have KL:=Lh kl
 clear kl e1
 go_enter Tryz.func75,Tryz.ntmps75
 go_wp2_with fail
 exact bodyPost_ret (Ap Tryz.results75 (by rfl) KL.out) rfl ⟨rfl,Al (Below.refl _ _) _⟩
def Z1 (t:TypeId) (w:World):World:=w.alloc (.cells #[.int .u64 0,.int .u64 0,.int .u64 0,.int .u64 0] t)
theorem IN (t:TypeId) (w:World):IsA (Z1 t w) w.heap.size 0 t∧(Z1 t w).heap.size=w.heap.size+1∧Below w.heap.size w (Z1 t w):=⟨CE (Aj w _),by unfold Z1;simp,Al (Below.refl _ _) _⟩
theorem EZ (a:Nat) (w:World) (ha:a<18446744073709551616):Calls Tryz.prog 34 #[.int .u64 (a:Int)] w fun e w'=>e=.returned (Aa a)∧Below w.heap.size w w':=by
 obtain⟨xr,xz,xB⟩:=IN 36 w
 have K:=Lh (fun w=>FJ a w ha)
 simp only[AL] at K ⊢
 go_enter Tryz.func34,Tryz.ntmps34
 go_wp2_with fail
 change Calls _ _ _ (Z1 36 w) _
 generalize Z1 36 w=X at *
 refine (K.out X).mono ?_
 rintro e w1 ⟨rfl,hb1⟩
 have xr1:=AT (xr.keep hb1)
 obtain⟨⟨d0,d1,d2,d3⟩,e0,e1,e2,e3⟩:=Aq xr1
 have KL:=Lh (Cm (AN (n:=a) xr1))
 have BR:=Lh (Bg (v0:=.int .u64 (wd a 0:Int)) (v1:=.int .u64 (wd a 1:Int)) (v2:=.int .u64 (wd a 2:Int)) (v3:=.int .u64 (wd a 3:Int)) (xB.trans (hb1.mono (by omega))) (b:=w.heap.size) (Nat.le_refl _))
 clear xr xr1 xB hb1
 go_wp2_with fail
 exact bodyPost_ret (Ap Tryz.results34 (by rfl) KL.out) rfl ⟨rfl,BR.out⟩
def A1 (n:Nat) (t:TypeId) (w:World):World:=w.alloc (.cells #[.int .u64 (wd n 0:Int),.int .u64 (wd n 1:Int),.int .u64 (wd n 2:Int),.int .u64 (wd n 3:Int)] t)
def A2 (n:Nat) (t u:TypeId) (w:World):World:=(w.alloc (.cells #[.int .u64 (wd n 0:Int),.int .u64 (wd n 1:Int),.int .u64 (wd n 2:Int),.int .u64 (wd n 3:Int)] t)).alloc (.cells #[.int .u64 0,.int .u64 0,.int .u64 0,.int .u64 0] u)
theorem MT (n:Nat) (t u:TypeId) (w:World):IsA (A2 n t u w) w.heap.size n t∧IsA (A2 n t u w) (w.heap.size+1) 0 u∧(A2 n t u w).heap.size=w.heap.size+2∧Below w.heap.size w (A2 n t u w) :=
 ⟨G4 w n t _,CE (Cy w _ _),by unfold A2;simp,Al (Al (Below.refl _ _) _) _⟩
theorem ZK (n:Nat) (w:World):Calls Tryz.prog 95 #[Aa n] w fun e w'=>e=.returned (Aa n)∧Below w.heap.size w w':=by
 have KL:=Lh (DE (W:=A1 n 24 (A1 n 36 w)) (b:=w.heap.size+1) (n:=n) (Cy w _ _))
 simp only[AL] at KL ⊢
 go_enter Tryz.func95,Tryz.ntmps95
 go_wp2_with fail
 exact bodyPost_ret (Ap Tryz.results95 (by rfl) KL.out) rfl ⟨rfl,Al (Al (Below.refl _ _) _) _⟩
theorem Lz (n:Nat) (w:World):Calls Tryz.prog 94 #[Aa n] w fun e w'=>e=.returned (.bool (decide (n%2=1)))∧Below w.heap.size w w':=by
 have K:=Lh (fun w=>Ji n 0 w (by omega))
 have hB:CF n 0=n%2:=by unfold CF;rw[Nat.pow_zero,Nat.div_one]
 rw[hB] at K
 have hq:(((n%2:Nat):Int) == 1)=decide (n%2=1):=by
  have h2:=Nat.mod_lt n (show 0<2 by decide)
  have h3:n%2=0∨n%2=1:=by omega
  rcases h3 with h | h <;> rw[h] <;> rfl
 obtain⟨B,hb⟩:=exzb (n%2)
 rw[hb] at K hq ⊢
 clear hb hB
 simp only[AL] at K ⊢
 go_enter Tryz.func94,Tryz.ntmps94
 go_wp2_with fail
 refine (K.out _).mono ?_
 rintro e w1 ⟨rfl,hb1⟩
 go_wp2_with fail
 go_ret
 exact⟨EM rfl,(Al (Below.refl _ _) _).trans (hb1.mono (by rw[Ae];omega))⟩
theorem Mo (n:Nat) (h:PN≤n):(0:Int)≤Eg n PN:=by unfold Eg;rw[if_neg (by omega)];split <;> omega
theorem LP (n:Nat) (h:n<PN):¬ (0:Int)≤Eg n PN:=by unfold Eg;rw[if_pos h];omega
theorem IsA.below {w w':World} {b n:Nat} {t:TypeId} (r:IsA w b n t) (hb:Below w.heap.size w w'):IsA w' b n t:=r.keep hb
theorem RF (n:Nat) (w:World) (hn:n<B64^4):Calls Tryz.prog 131 #[Aa n] w fun e w'=>e=.returned (Aa (n%PN))∧Below w.heap.size w w':=by
 obtain⟨xa,xr,xz,xB⟩:=MT n 24 36 w
 have K1:=Lh Xn
 have HMIX:=Lh (show Tryz.prog.follows .mixedOrders=true by kernel_rfl)
 obtain⟨p,hp⟩:=exzb (PN)
 have hpB:p<B64^4:=by rw[← hp];exact VD
 have hp0:0<p:=by rw[← hp];exact Au
 have CG:=Lh Mo
 have CL:=Lh LP
 rw[hp] at K1 CG CL
 rw[hp]
 clear hp
 simp only[AL] at K1 ⊢
 have HP:=Lh (And.intro hpB (And.intro hp0 hn))
 clear hpB hp0 hn
 go_enter Tryz.func131,Tryz.ntmps131
 go_wp2_with fail
 change Code.wp _ _ _ _ (A2 n 24 36 w)
 generalize A2 n 24 36 w=X at *
 go_loopg [] n (fun gk wr=>gk<B64^4∧gk%p=n%p∧IsA wr w.heap.size gk 24∧IsA wr (w.heap.size+1) 0 36∧Below w.heap.size w wr)
 case atStart=>exact⟨HP.out.2.2,rfl,xa,xr,xB⟩
 case round =>
  obtain⟨hg,hm,ya,yr,yB⟩:=hrel
  have K2:=Lh (fun w=>Jk gk p w hg HP.out.1)
  obtain⟨C,hC⟩:=exzb (Eg gk p)
  have cge:=CG.out gk
  have clt:=CL.out gk
  rw[hC] at K2 cge clt
  simp only[AL] at K2
  obtain⟨⟨p0,p1,p2,p3⟩,_⟩:=Aq ya
  have hsz:=yB.size
  have hlA:=AU ya
  have hlR:=AU yr
  have HA:=Lh ya
  have HR:=Lh yr
  have HB:=Lh yB
  have HM:=Lh (And.intro hg hm)
  clear xa xr xz xB ya yr yB hC hg hm
  by_cases hlt:gk<p
  ·have c1:=clt hlt
   have HL:=Lh hlt
   have kl:=Cm (AN (n:=gk) (AT HR.out))
   clear cge clt hlt kl
   have D0:=fun d os=>cell_regrown p0 d os
   have D1:=fun d os=>cell_regrown p1 d os
   have D2:=fun d os=>cell_regrown p2 d os
   have D3:=fun d os=>cell_regrown p3 d os
   clear p0 p1 p2 p3
   go_wp2_with fail
   refine wp_region_quiet_below HMIX.out (by kernel_rfl) ?_
   repeat (go_big_quiet_step (first
    | (go_at_call 75;exact Calls.regrown_of (K1.out _))
    | (go_at_call 74;exact Calls.regrown_of (K2.out _))))
   refine wpQuiet_nil ?_
   intro _ hw'
   obtain⟨⟨nq1,os1⟩,hw''⟩:=hw'
   subst hw''
   have xa:=HA.out.below (below_regrown wr nq1 os1)
   have xr:=AT (HR.out.below (below_regrown wr nq1 os1))
   have xB:=HB.out.trans ((below_regrown wr nq1 os1).mono hsz)
   clear D0 D1 D2 D3 HA HR HB K1 K2
   generalize Sort.grow (redrawn wr nq1) os1=U2 at xa xr xB ⊢
   obtain⟨⟨p0,p1,p2,p3⟩,_⟩:=Aq xa
   obtain⟨⟨d0,d1,d2,d3⟩,e0,e1,e2,e3⟩:=Aq xr
   have KL:=Lh (Cm (AN (n:=gk) xr))
   have BR:=Lh (Bg (v0:=.int .u64 (wd gk 0:Int)) (v1:=.int .u64 (wd gk 1:Int)) (v2:=.int .u64 (wd gk 2:Int)) (v3:=.int .u64 (wd gk 3:Int)) xB (b:=w.heap.size+1) (by omega))
   clear xa xr xB
   go_wp2_with fail
   have hE:n%p=gk:=by
    rw[← HM.out.2,Nat.mod_eq_of_lt HL.out]
   exact bodyPost_ret (Ap Tryz.results131 (by rfl) KL.out) rfl ⟨by rw[hE];rfl,BR.out⟩
  ·have c1:=cge (Nat.le_of_not_lt hlt)
   have HL:=Lh (Nat.le_of_not_lt hlt)
   have hS:Fq gk p=gk-p:=by unfold Fq;rw[if_neg hlt]
   have K3:=Lh (fun w=>Oy gk p w HM.out.1 HP.out.1)
   rw[hS] at K3
   obtain⟨S,hSS⟩:=exzb (gk-p)
   obtain⟨B,hBB⟩:=exzb (Hm gk p)
   rw[hSS,hBB] at K3
   have HS:=Lh hSS
   simp only[AL] at K3
   clear cge clt hlt hS hSS hBB
   have D0:=fun d os=>cell_regrown p0 d os
   have D1:=fun d os=>cell_regrown p1 d os
   have D2:=fun d os=>cell_regrown p2 d os
   have D3:=fun d os=>cell_regrown p3 d os
   clear p0 p1 p2 p3
   go_wp2_with fail
   refine wp_region_quiet_below HMIX.out (by kernel_rfl) ?_
   repeat (go_big_quiet_step (first
    | (go_at_call 75;exact Calls.regrown_of (K1.out _))
    | (go_at_call 74;exact Calls.regrown_of (K2.out _))))
   refine wpQuiet_nil ?_
   intro _ hw'
   obtain⟨⟨nq1,os1⟩,hw''⟩:=hw'
   subst hw''
   have XA:=Lh (HA.out.below (below_regrown wr nq1 os1))
   have XR:=Lh (HR.out.below (below_regrown wr nq1 os1))
   have XB:=Lh (HB.out.trans ((below_regrown wr nq1 os1).mono hsz))
   clear D0 D1 D2 D3 HA HR HB K2
   generalize Sort.grow (redrawn wr nq1) os1=Y at XA XR XB ⊢
   obtain⟨⟨p0,p1,p2,p3⟩,g0,g1,g2,g3⟩:=Aq XA.out
   have hlY:=AU XA.out
   have hlZ:=AU XR.out
   go_wp2_with fail
   go_region_law (first
    | (go_simp;go_at_call 75;go_must (refine (K1.out _).mono ?_);rintro e w3 ⟨rfl,hb3⟩
       have r3:=(show IsA Y.drew _ _ _ from XA.out).keep hb3
       have x3:=(show IsA Y.drew _ _ _ from XR.out).keep hb3
       have B3:=XB.out.drew.trans (hb3.mono XB.out.size)
       obtain⟨⟨k0,k1,k2,k3⟩,f0,f1,f2,f3⟩:=Aq r3)
    | (go_simp;go_at_call 134;go_must (refine (K3.out _).mono ?_);rintro e w4 ⟨rfl,hb4⟩
       have r4:=r3.keep hb4
       have x4:=x3.keep hb4
       have B4:=B3.trans (hb4.mono B3.size)
       obtain⟨⟨m0,m1,m2,m3⟩,h0,h1,h2,h3⟩:=Aq r4))
   all_goals
    have RA:=Lh (AN (n:=S) r4)
    have RR:=Lh (x4.far (c:=w.heap.size) (v0:=.int .u64 (wd S 0:Int)) (v1:=.int .u64 (wd S 1:Int)) (v2:=.int .u64 (wd S 2:Int)) (v3:=.int .u64 (wd S 3:Int)) (by omega))
    have BR:=Lh (Bg (v0:=.int .u64 (wd S 0:Int)) (v1:=.int .u64 (wd S 1:Int)) (v2:=.int .u64 (wd S 2:Int)) (v3:=.int .u64 (wd S 3:Int)) B4 (b:=w.heap.size) (Nat.le_refl _))
    clear r3 r4 x3 x4 B3 B4
    go_wp2_with fail
    go_roundg S
    case rel =>
     have hS:=HS.out
     have h1:=HP.out
     have h2:=HM.out
     have h3:=HL.out
     refine⟨by omega,?_,RA.out,RR.out,BR.out⟩
     rw[← h2.2,← hS]
     exact (Nat.mod_eq_sub_mod h3).symm
    case measure =>
     have hS:=HS.out
     have h1:=HP.out
     have h3:=HL.out
     omega
def A3 (a b:Nat) (t:TypeId) (w:World):World:=((w.alloc (.cells #[.int .u64 (wd a 0:Int),.int .u64 (wd a 1:Int),.int .u64 (wd a 2:Int),.int .u64 (wd a 3:Int)] t)).alloc (.cells #[.int .u64 (wd b 0:Int),.int .u64 (wd b 1:Int),.int .u64 (wd b 2:Int),.int .u64 (wd b 3:Int)] t)).alloc (.cells #[.int .u64 0,.int .u64 0,.int .u64 0,.int .u64 0] 36)
theorem Yj (a b:Nat) (t:TypeId) (w:World):IsA (A3 a b t w) w.heap.size a t∧IsA (A3 a b t w) (w.heap.size+1) b t∧IsA (A3 a b t w) (w.heap.size+1+1) 0 36∧(A3 a b t w).heap.size=w.heap.size+3∧Below w.heap.size w (A3 a b t w):=by
 unfold A3
 refine⟨(G4 w a t _).alloc _,(AP (Cy w _ _) _:_),CE (GU w _ _ _),by simp,Al (Al (Al (Below.refl _ _) _) _) _⟩
theorem eC:PN+PN<B64^4:=by decide +kernel
theorem Sd (a b:Nat) (ha:a<PN) (hb:b<PN) (h:a<b):BS (Fq a b) PN=(a+PN-b)%PN:=by
 have:=eC
 unfold BS Fq
 rw[if_pos h,show a+B64^4-b+PN=a+PN-b+B64^4 by omega,Nat.add_mod_right,Nat.mod_eq_of_lt (by omega:a+PN-b<B64^4),Nat.mod_eq_of_lt (by omega:a+PN-b<PN)]
theorem Se (a b:Nat) (ha:a<PN) (h:¬ a<b):Fq a b=(a+PN-b)%PN:=by
 unfold Fq
 rw[if_neg h,show a+PN-b=a-b+PN by omega,Nat.add_mod_right,Nat.mod_eq_of_lt (by omega:a-b<PN)]
theorem Bv {a:Nat} (h:a<PN):a<B64^4:=Nat.lt_trans h VD
theorem Ex (a b:Nat) (w:World) (ha:a<PN) (hb:b<PN):Calls Tryz.prog 80 #[Aa a,Aa b] w fun e w'=>e=.returned (Aa ((a+PN-b)%PN))∧Below w.heap.size w w':=by
 have K1:=Lh (fun w=>Oy a b w (Bv ha) (Bv hb))
 have K2:=Lh Xn
 have K3:=Lh (fun w=>IB (Fq a b) PN w (aj a b (Bv ha) (Bv hb)) VD)
 obtain⟨xa,xb,xr,xz,xB⟩:=Yj a b 36 w
 by_cases h:a<b
 ·have hk:Hm a b=1:=by unfold Hm;rw[if_pos h]
  rw[Sd a b ha hb h] at K3
  rw[hk] at K1
  obtain⟨S,hS⟩:=exzb (Fq a b)
  obtain⟨R,hR⟩:=exzb ((a+PN-b)%PN)
  obtain⟨C,hC⟩:=exzb (DV S PN)
  rw[hS] at K1
  rw[hS,hC,hR] at K3
  rw[hR]
  obtain⟨p,hp⟩:=exzb (PN)
  rw[hp] at K2 K3
  have k1:((1:Nat):Int)=1:=rfl
  rw[k1] at K1
  simp only[AL] at K1 K2 K3 ⊢
  clear ha hb h hk hS hR hC hp k1
  go_enter Tryz.func80,Tryz.ntmps80
  go_wp2_with fail
  change Calls _ _ _ (A3 a b 36 w) _
  generalize A3 a b 36 w=X at *
  refine (K1.out X).mono ?_
  rintro e w1 ⟨rfl,hb1⟩
  have hz1:w.heap.size+3≤w1.heap.size:=by have:=hb1.size;omega
  have XA:Hid (IsA (w1.alloc (.cells #[.int .u64 (wd S 0:Int),.int .u64 (wd S 1:Int),.int .u64 (wd S 2:Int),.int .u64 (wd S 3:Int)] 24)) w1.heap.size S 24):=(Aj w1 _ :)
  have XR:=Lh ((xr.keep hb1).alloc (.cells #[.int .u64 (wd S 0:Int),.int .u64 (wd S 1:Int),.int .u64 (wd S 2:Int),.int .u64 (wd S 3:Int)] 24))
  have XB:=Lh (Dt (xB.trans (hb1.mono (by omega))) (by omega) (.cells #[.int .u64 (wd S 0:Int),.int .u64 (wd S 1:Int),.int .u64 (wd S 2:Int),.int .u64 (wd S 3:Int)] 24))
  clear xa xb xr xz xB hb1 K1
  go_wp2_with fail
  generalize w1.alloc (.cells #[.int .u64 (wd S 0:Int),.int .u64 (wd S 1:Int),.int .u64 (wd S 2:Int),.int .u64 (wd S 3:Int)] 24)=Y at XA XR XB ⊢
  obtain⟨⟨p0,p1,p2,p3⟩,g0,g1,g2,g3⟩:=Aq XA.out
  go_region_law (first
      | (go_simp;go_at_call 75;go_must (refine (K2.out _).mono ?_);rintro e w3 ⟨rfl,hb3⟩
         have r3:=(show IsA Y.drew _ _ _ from XA.out).keep hb3
         have x3:=(show IsA Y.drew _ _ _ from XR.out).keep hb3
         have B3:=XB.out.drew.trans (hb3.mono XB.out.size)
         obtain⟨⟨k0,k1,k2,k3⟩,f0,f1,f2,f3⟩:=Aq r3)
      | (go_simp;go_at_call 102;go_must (refine (K3.out _).mono ?_);rintro e w4 ⟨rfl,hb4⟩
         have r4:=r3.keep hb4
         have x4:=x3.keep hb4
         have B4:=B3.trans (hb4.mono B3.size)
         obtain⟨⟨m0,m1,m2,m3⟩,h0,h1,h2,h3⟩:=Aq r4))
  all_goals
   have ra:=AN (n:=R) r4
   have rr:=AT (x4.far (c:=w1.heap.size) (v0:=.int .u64 (wd R 0:Int)) (v1:=.int .u64 (wd R 1:Int)) (v2:=.int .u64 (wd R 2:Int)) (v3:=.int .u64 (wd R 3:Int)) (by omega))
   have br:=Bg (v0:=.int .u64 (wd R 0:Int)) (v1:=.int .u64 (wd R 1:Int)) (v2:=.int .u64 (wd R 2:Int)) (v3:=.int .u64 (wd R 3:Int)) B4 (b:=w1.heap.size) (by omega)
   clear r3 r4 x3 x4 B3 B4 hb3 hb4 XA XR XB
   generalize (((w4.setCell ⟨w1.heap.size,0,none⟩ (.int .u64 (wd R 0:Int))).setCell ⟨w1.heap.size,1,none⟩ (.int .u64 (wd R 1:Int))).setCell ⟨w1.heap.size,2,none⟩ (.int .u64 (wd R 2:Int))).setCell ⟨w1.heap.size,3,none⟩ (.int .u64 (wd R 3:Int))=Z at *
   obtain⟨⟨q0,q1,q2,q3⟩,_⟩:=Aq ra
   obtain⟨⟨d0,d1,d2,d3⟩,e0,e1,e2,e3⟩:=Aq rr
   have KL:=Lh (Cm (AN (n:=R) rr))
   have BR:=Lh (Bg (v0:=.int .u64 (wd R 0:Int)) (v1:=.int .u64 (wd R 1:Int)) (v2:=.int .u64 (wd R 2:Int)) (v3:=.int .u64 (wd R 3:Int)) br (b:=w.heap.size+1+1) (by omega))
   clear ra rr br
   go_wp2_with fail
   exact bodyPost_ret (Ap Tryz.results80 (by rfl) KL.out) rfl ⟨rfl,BR.out⟩
 ·have hk:Hm a b=0:=by unfold Hm;rw[if_neg h]
  rw[Se a b ha h] at K1
  rw[hk] at K1
  obtain⟨R,hR⟩:=exzb ((a+PN-b)%PN)
  rw[hR] at K1 ⊢
  have k1:((0:Nat):Int)=0:=rfl
  rw[k1] at K1
  simp only[AL] at K1 ⊢
  clear ha hb h hk hR k1 K2 K3
  go_enter Tryz.func80,Tryz.ntmps80
  go_wp2_with fail
  change Calls _ _ _ (A3 a b 36 w) _
  generalize A3 a b 36 w=X at *
  refine (K1.out X).mono ?_
  rintro e w1 ⟨rfl,hb1⟩
  have xr1:=AT ((xr.keep hb1).alloc (.cells #[.int .u64 (wd R 0:Int),.int .u64 (wd R 1:Int),.int .u64 (wd R 2:Int),.int .u64 (wd R 3:Int)] 24))
  obtain⟨⟨d0,d1,d2,d3⟩,e0,e1,e2,e3⟩:=Aq xr1
  have hz1:w.heap.size+3≤w1.heap.size:=by have:=hb1.size;omega
  have KL:=Lh (Cm (AN (n:=R) xr1))
  have BR:=Lh (Bg (v0:=.int .u64 (wd R 0:Int)) (v1:=.int .u64 (wd R 1:Int)) (v2:=.int .u64 (wd R 2:Int)) (v3:=.int .u64 (wd R 3:Int)) (Dt (xB.trans (hb1.mono (by omega))) (by omega) (.cells #[.int .u64 (wd R 0:Int),.int .u64 (wd R 1:Int),.int .u64 (wd R 2:Int),.int .u64 (wd R 3:Int)] 24)) (b:=w.heap.size+1+1) (by omega))
  clear xa xb xr xr1 xB hb1
  go_wp2_with fail
  exact bodyPost_ret (Ap Tryz.results80 (by rfl) KL.out) rfl ⟨rfl,BR.out⟩
theorem Ho (a:Nat) (w:World) (ha:a<PN):Calls Tryz.prog 83 #[Aa a] w fun e w'=>e=.returned (Aa ((0+PN-a)%PN))∧Below w.heap.size w w':=by
 have K:=Lh (fun w=>Ex 0 a w Au ha)
 obtain⟨R,hR⟩:=exzb ((0+PN-a)%PN)
 rw[hR,L6] at K
 rw[hR]
 obtain⟨xa,xr,xz,xB⟩:=MT a 36 36 w
 simp only[AL] at K ⊢
 obtain⟨⟨p0,p1,p2,p3⟩,_⟩:=Aq xa
 clear hR
 go_enter Tryz.func83,Tryz.ntmps83
 go_wp2_with fail
 change Calls _ _ _ (A2 a 36 36 w) _
 generalize A2 a 36 36 w=X at *
 refine (K.out X).mono ?_
 rintro e w1 ⟨rfl,hb1⟩
 have xr1:=AT (xr.keep hb1)
 obtain⟨⟨d0,d1,d2,d3⟩,e0,e1,e2,e3⟩:=Aq xr1
 have KL:=Lh (Cm (AN (n:=R) xr1))
 have BR:=Lh (Bg (v0:=.int .u64 (wd R 0:Int)) (v1:=.int .u64 (wd R 1:Int)) (v2:=.int .u64 (wd R 2:Int)) (v3:=.int .u64 (wd R 3:Int)) (xB.trans (hb1.mono (by omega))) (b:=w.heap.size+1) (by omega))
 clear xa xr xr1 xB hb1
 go_wp2_with fail
 exact bodyPost_ret (Ap Tryz.results83 (by rfl) KL.out) rfl ⟨rfl,BR.out⟩
theorem gN:B64^4=2*PN+38:=by decide +kernel
theorem iO:B64^4=115792089237316195423570985008687907853269984665640564039457584007913129639936:=by decide +kernel
theorem LG (k n:Nat):(k*B64^4+n)%PN=(38*k+n)%PN:=by
 rw[gN,show k*(2*PN+38)+n=38*k+n+PN*(2*k) by rw[Nat.mul_add,Nat.mul_comm k 38,← Nat.mul_assoc,Nat.mul_comm (k*2),Nat.mul_comm k 2];omega,Nat.add_mul_mod_self_left]
theorem XV (a:Nat) (h:a<18446744073709551616):wd a 0=a:=by
 unfold wd
 rw[Nat.pow_zero,Nat.div_one]
 exact Nat.mod_eq_of_lt h
theorem cg (h:Nat) (hh:h<B64^4):h*38/B64^4<38:=by
 rw[Nat.div_lt_iff_lt_mul (by decide)]
 rw[Nat.mul_comm]
 exact Nat.mul_lt_mul_of_pos_left hh (by decide)
theorem Ut (a b:Nat) (ha:a<B64^4) (hb:b<B64^4):DV a b≤1:=by
 unfold DV
 have:(a+b)/B64^4<2:=by rw[Nat.div_lt_iff_lt_mul (by decide)];omega
 omega
theorem Tz (lo hi:Nat):(((hi*38/B64^4+DV lo (hi*38%B64^4))*B64^4)+BS lo (hi*38%B64^4))%PN=(hi*B64^4+lo)%PN:=by
 have e:((hi*38/B64^4+DV lo (hi*38%B64^4))*B64^4)+BS lo (hi*38%B64^4)=38*hi+lo:=by
  unfold DV BS
  have h1:=Nat.div_add_mod (hi*38) (B64^4)
  have h2:=Nat.div_add_mod (lo+hi*38%B64^4) (B64^4)
  rw[Nat.add_mul,Nat.mul_comm (hi*38/B64^4),Nat.mul_comm ((lo+hi*38%B64^4)/B64^4)]
  omega
 rw[e,LG]
theorem RW (n k:Nat):(DV n (38*k)*B64^4+BS n (38*k))=n+38*k:=by
 unfold DV BS
 rw[Nat.mul_comm,Nat.div_add_mod]
abbrev C4 (w:World) (b n:Nat):Prop:=w.cell? ⟨b,0,none⟩=some (.int .u64 (wd n 0:Int))∧w.cell? ⟨b,1,none⟩=some (.int .u64 (wd n 1:Int))∧w.cell? ⟨b,2,none⟩=some (.int .u64 (wd n 2:Int))∧w.cell? ⟨b,3,none⟩=some (.int .u64 (wd n 3:Int))
theorem C4.map {w w':World} {b n:Nat} (h:C4 w b n) (f:∀ {j:Nat} {v:Value},w.cell? ⟨b,j,none⟩=some v→w'.cell? ⟨b,j,none⟩=some v):C4 w' b n:=⟨f h.1,f h.2.1,f h.2.2.1,f h.2.2.2⟩
theorem Oa {w:World} {b j:Nat} {v:Value} (h:w.cell? ⟨b,j,none⟩=some v):b<w.heap.size:=by
 rcases Nat.lt_or_ge b w.heap.size with hl | hl
 ·exact hl
 ·rw[World.cell?,Array.getElem?_eq_none hl] at h
  cases h
theorem C4.call {w w':World} {b n:Nat} (h:C4 w b n) (hb:Below w.heap.size w w'):C4 w' b n:=h.map fun h=>(hb.cell (Oa h)).trans h
theorem C4.calls {w w':World} {b n N:Nat} (hb:Below N w w') (h:C4 w b n) (hN:w.heap.size≤N):C4 w' b n:=h.map fun h=>(hb.cell (Nat.lt_of_lt_of_le (Oa h) hN)).trans h
theorem C4.drew {w:World} {b n:Nat} (h:C4 w b n):C4 w.drew b n:=h
theorem C4.alloc {w:World} {b n:Nat} (h:C4 w b n) (o:Obj):C4 (w.alloc o) b n:=h.call ((Below.refl w.heap.size w).alloc (Nat.le_refl _) o)
theorem C4.far {w:World} {b c n:Nat} {v0 v1 v2 v3:Value} (h:C4 w b n) (hne:b≠c):C4 ((((w.setCell ⟨c,0,none⟩ v0).setCell ⟨c,1,none⟩ v1).setCell ⟨c,2,none⟩ v2).setCell ⟨c,3,none⟩ v3) b n:=h.map fun h=>by
 rw[← h]
 simp only[World.cell?,FU hne]
theorem Gl {w:World} {b:Nat} {o:Obj} (h:w.heap[b]?=some o):w.drew.heap[b]?=some o:=h
theorem Bh {w W:World} {b:Nat} {v0 v1 v2 v3:Value} (h:Below w.heap.size w W) (hb:w.heap.size≤b):Below w.heap.size w ((((W.setCell ⟨b,0,none⟩ v0).setCell ⟨b,1,none⟩ v1).setCell ⟨b,2,none⟩ v2).setCell ⟨b,3,none⟩ v3):=Bg h hb
theorem AH {w w':World} {b n N:Nat} {t:TypeId} (hb:Below N w w') (h:IsA w b n t) (hN:w.heap.size≤N):IsA w' b n t:=(hb.block b (Nat.lt_of_lt_of_le (AU h) hN)).trans h
theorem GY (w:World) (n:Nat) (t:TypeId):IsA (w.alloc (.cells #[.int .u64 (wd n 0:Int),.int .u64 (wd n 1:Int),.int .u64 (wd n 2:Int),.int .u64 (wd n 3:Int)] t)) w.heap.size n t:=Aj w _
theorem Gn {w:World} {b c:Nat} {o:Obj} {v0 v1 v2 v3:Value} (h:w.heap[c]?=some o) (hne:c≠b):((((w.setCell ⟨b,0,none⟩ v0).setCell ⟨b,1,none⟩ v1).setCell ⟨b,2,none⟩ v2).setCell ⟨b,3,none⟩ v3).heap[c]?=some o:=(FU hne).trans h
theorem B0 {w W W':World} {N:Nat} (hb:Below N W W') (h:Below w.heap.size w W) (hN:w.heap.size≤N):Below w.heap.size w W':=h.trans (hb.mono hN)
theorem Bi {w W:World} (h:Below w.heap.size w W) (o:Obj):Below w.heap.size w (W.alloc o):=Al h o
theorem Dc {w W:World} (h:Below w.heap.size w W):Below w.heap.size w W.drew:=h.drew
theorem Wf (lo hi:Nat) (w:World) (hl:lo<B64^4) (hh:hi<B64^4):Calls Tryz.prog 130 #[Aa lo,Aa hi] w fun e w'=>e=.returned (Aa ((hi*B64^4+lo)%PN))∧Below w.heap.size w w':=by
 have KS:=Lh (fun w=>FJ 38 w (by decide))
 have KM:=Lh (fun w=>Lk hi 38 w hh (by decide +kernel))
 have hm:hi*38%B64^4<B64^4:=Nat.mod_lt _ (by decide)
 have hr:=cg hi hh
 have KA:=Lh (fun w=>IB lo (hi*38%B64^4) w hl hm)
 have hst:=Tz lo hi
 have hov:=Ut lo _ hl hm
 have hn:BS lo (hi*38%B64^4)<B64^4:=Nat.mod_lt _ (by decide)
 obtain⟨M,hM⟩:=exzb (hi*38%B64^4)
 obtain⟨H,hH⟩:=exzb (hi*38/B64^4)
 obtain⟨T,hT⟩:=exzb ((hi*B64^4+lo)%PN)
 rw[hM] at hst hov hn KA
 rw[hH] at hst hr
 rw[hM,hH] at KM
 rw[hT] at hst ⊢
 obtain⟨n,hn'⟩:∃ n,BS lo M=n:=⟨_,rfl⟩
 obtain⟨v,hv⟩:=exzb (DV lo M)
 rw[hn',hv] at KA hst
 rw[hn'] at hn
 rw[hv] at hov
 have hw0:wd H 0=H:=XV H (by omega)
 obtain⟨xa,xb,xr,xz,xB⟩:=Yj lo hi 24 w
 obtain⟨c38,hc38⟩:∃ c38,c38=38:=⟨38,rfl⟩
 rw[← hc38] at KM
 have KS:Hid (∀ w,Calls Tryz.prog 38 #[.int .u64 38] w fun e w'=>e=.returned (Aa c38)∧Below w.heap.size w w'):=fun w=>by rw[hc38];exact KS.out w
 simp only[AL] at KS KM KA ⊢
 have HW0:=Lh hw0
 clear hw0
 have HST:=Lh (And.intro hst (And.intro hr (And.intro hov hn)))
 clear hM hH hT hn' hv hst hr hov hn hm hl hh hc38
 go_enter Tryz.func130,Tryz.ntmps130
 go_wp2_with fail
 change Code.wp _ _ _ _ (A3 lo hi 24 w)
 generalize A3 lo hi 24 w=X at *
 obtain⟨⟨q0,q1,q2,q3⟩,_⟩:=Aq xb
 have XA:=Lh xa
 have XB:=Lh xb
 have XR:=Lh xr
 have XW:=Lh xB
 clear xa xb xr xB
 go_cut [5,6] (fun s5 s6 wc=>∃ b5 b6,s5=.pointer (some ⟨b5,0,none⟩)∧s6=.pointer (some ⟨b6,0,none⟩)∧IsA wc b5 M 24∧IsA wc b6 H 24∧IsA wc w.heap.size lo 24∧IsA wc (w.heap.size+1+1) 0 36∧Below w.heap.size w wc)
 case rest =>
  obtain⟨b5,b6,rfl,rfl,r5,r6,rl,rr,rb⟩:=hcut
  clear XA XB XR XW q0 q1 q2 q3 xz KS KM
  have hw0:=HW0.out
  have hsz:=rb.size
  have l5:=AU r5
  have l6:=AU r6
  obtain⟨⟨p0,p1,p2,p3⟩,_⟩:=Aq rl
  obtain⟨⟨m0,m1,m2,m3⟩,_⟩:=Aq r5
  obtain⟨⟨h0,h1,h2,h3⟩,_⟩:=Aq r6
  have R6:=Lh r6
  have RR:=Lh rr
  have RB:=Lh rb
  clear r5 r6 rl rr rb
  go_wp2_with fail
  refine (KA.out wc).mono ?_
  rintro e w1 ⟨rfl,hb1⟩
  have hs1:=hb1.size
  have R7:Hid (IsA (w1.alloc (.cells #[.int .u64 (wd n 0:Int),.int .u64 (wd n 1:Int),.int .u64 (wd n 2:Int),.int .u64 (wd n 3:Int)] 24)) w1.heap.size n 24):=(Aj w1 _ :)
  have r6':=(R6.out.keep hb1).alloc (.cells #[.int .u64 (wd n 0:Int),.int .u64 (wd n 1:Int),.int .u64 (wd n 2:Int),.int .u64 (wd n 3:Int)] 24)
  have RR7:=Lh ((RR.out.keep hb1).alloc (.cells #[.int .u64 (wd n 0:Int),.int .u64 (wd n 1:Int),.int .u64 (wd n 2:Int),.int .u64 (wd n 3:Int)] 24))
  have RB7:=Lh (Bi (B0 hb1 RB.out hsz) (.cells #[.int .u64 (wd n 0:Int),.int .u64 (wd n 1:Int),.int .u64 (wd n 2:Int),.int .u64 (wd n 3:Int)] 24))
  obtain⟨⟨h0,h1,h2,h3⟩,_⟩:=Aq r6'
  rw[hw0] at h0
  have hst:=HST.out
  have hv0:(0:Int)≤(H:Int)+(v:Int):=by omega
  have hv1:(H:Int)+(v:Int)<18446744073709551616:=by omega
  have hvn:(H:Int)+(v:Int)=((H+v:Nat):Int):=by omega
  have HVN:=Lh hvn
  have ha38:H+v≤38:=by omega
  have HA38:=Lh ha38
  have hs7:w.heap.size+3≤w1.heap.size:=by have:=AU RR.out;omega
  have l6':b6<w1.heap.size:=by omega
  clear p0 p1 p2 p3 m0 m1 m2 m3 r6' hb1 hs1 l5 l6 hst hvn ha38 R6 RR RB KA hw0
  go_wp2_with fail
  have hE:(H+v)*B64^4+n=(H+v)*B64^4+n:=rfl
  have hlR:w.heap.size+1+1<w1.heap.size:=by omega
  generalize w1.alloc (.cells #[.int .u64 (wd n 0:Int),.int .u64 (wd n 1:Int),.int .u64 (wd n 2:Int),.int .u64 (wd n 3:Int)] 24)=Y at *
  clear h0 h1 h2 h3 l6' hE
  generalize w1.heap.size=g7 at *
  have HM:=Lh (fun m (hm:m<B64^4) w=>RF m w hm)
  go_loopg [9] ((H+v)*B64^4+n) (fun gk s9 wr=>∃ k m:Nat,s9=.int .u64 (k:Int)∧k≤38∧m<B64^4∧gk=k*B64^4+m∧gk%PN=T∧IsA wr g7 m 24∧IsA wr (w.heap.size+1+1) 0 36∧Below w.heap.size w wr)
  case atStart=>exact⟨H+v,n,by rw[HVN.out],HA38.out,HST.out.2.2.2,rfl,HST.out.1,R7.out,RR7.out,RB7.out⟩
  case round =>
   obtain⟨k,m,rfl,hk,hm,hg,ht,r7,rr,rb⟩:=hrel
   clear HST HVN HA38 R7 RR7 RB7 HW0 hv0 hv1
   have hl7:=AU r7
   have hlr:=AU rr
   have hbs:=rb.size
   obtain⟨⟨p0,p1,p2,p3⟩,g0,g1,g2,g3⟩:=Aq r7
   have X7:=Lh r7
   have XR:=Lh rr
   have XB:=Lh rb
   have HG:=Lh (And.intro hg ht)
   clear r7 rr rb hg ht
   by_cases h0:k=0
   ·have q1:¬ (0:Int)<(k:Int):=by omega
    have KM:=Lh (fun w=>HM.out m hm w)
    have hT:m%PN=T:=by rw[← HG.out.2,HG.out.1,h0,Nat.zero_mul,Nat.zero_add]
    rw[hT] at KM
    simp only[AL] at KM
    clear h0 HM hT HG hk hm
    go_wp2_with fail
    refine (KM.out wr).mono ?_
    rintro e w2 ⟨rfl,hb2⟩
    have xr:=AT (XR.out.keep hb2)
    obtain⟨⟨d0,d1,d2,d3⟩,e0,e1,e2,e3⟩:=Aq xr
    have KL:=Lh (Cm (AN (n:=T) xr))
    have BR:=Lh (Bh (v0:=.int .u64 (wd T 0:Int)) (v1:=.int .u64 (wd T 1:Int)) (v2:=.int .u64 (wd T 2:Int)) (v3:=.int .u64 (wd T 3:Int)) (B0 hb2 XB.out hbs) (b:=w.heap.size+1+1) (by omega))
    clear xr XR XB X7 hb2 g0 g1 g2 g3 KM p0 p1 p2 p3
    go_wp2_with fail
    exact bodyPost_ret (Ap Tryz.results130 (by rfl) KL.out) rfl ⟨rfl,BR.out⟩
   ·have q1:(0:Int)<(k:Int):=by omega
    have hwr:IntKind.u64.wrap (38*(k:Int))=38*(k:Int):=IntWalk.u64_in _ (by omega)
    have KS:Hid (∀ w,Calls Tryz.prog 38 #[.int .u64 (38*(k:Int))] w fun e w'=>e=.returned (Aa (38*k))∧Below w.heap.size w w'):=fun w=>by
     have h:=FJ (38*k) w (by omega)
     push_cast at h
     exact h
    have KA:=Lh (fun w=>IB m (38*k) w hm (Nat.lt_of_lt_of_le (show 38*k<2000 by omega) (by decide +kernel)))
    have hrr:=RW m k
    have hnk:DV m (38*k)≤1:=Ut m (38*k) hm (Nat.lt_of_lt_of_le (show 38*k<2000 by omega) (by decide +kernel))
    have hnm:BS m (38*k)<B64^4:=Nat.mod_lt _ (by decide)
    obtain⟨c,hc⟩:=exzb (38*k)
    rw[hc] at KS KA hrr hnk hnm
    obtain⟨m',hm'⟩:∃ m',BS m c=m':=⟨_,rfl⟩
    obtain⟨k',hk'⟩:∃ k',DV m c=k':=⟨_,rfl⟩
    rw[hm',hk'] at KA hrr
    rw[hm'] at hnm
    rw[hk'] at hnk
    have HR:=Lh (And.intro hrr (And.intro hnk (And.intro hnm hc)))
    have HK:=Lh (And.intro h0 hk)
    simp only[AL] at KS KA
    clear HM hrr hnk hnm hc hm' hk' h0 hk hm
    go_wp2_with fail
    go_region_law (first
     | (go_simp;go_at_call 38;go_must (refine (KS.out _).mono ?_);rintro e w3 ⟨rfl,hb3⟩
        have r3:=(show IsA wr.drew _ _ _ from X7.out).keep hb3
        have x3:=(show IsA wr.drew _ _ _ from XR.out).keep hb3
        have B3:=XB.out.drew.trans (hb3.mono XB.out.size)
        obtain⟨⟨k0,k1,k2,k3⟩,f0,f1,f2,f3⟩:=Aq r3)
     | (go_simp;go_at_call 102;go_must (refine (KA.out _).mono ?_);rintro e w4 ⟨rfl,hb4⟩
        have r4:=r3.keep hb4
        have x4:=x3.keep hb4
        have B4:=B3.trans (hb4.mono B3.size)
        obtain⟨⟨m0,m1,m2,m3⟩,h0,h1,h2,h3⟩:=Aq r4))
    all_goals
     have RA:=Lh (AN (n:=m') r4)
     have RR:=Lh (x4.far (c:=g7) (v0:=.int .u64 (wd m' 0:Int)) (v1:=.int .u64 (wd m' 1:Int)) (v2:=.int .u64 (wd m' 2:Int)) (v3:=.int .u64 (wd m' 3:Int)) (by omega))
     have BR:=Lh (Bh (v0:=.int .u64 (wd m' 0:Int)) (v1:=.int .u64 (wd m' 1:Int)) (v2:=.int .u64 (wd m' 2:Int)) (v3:=.int .u64 (wd m' 3:Int)) B4 (b:=g7) (by omega))
     clear r3 r4 x3 x4 B3 B4
     go_wp2_with fail
     go_roundg (k'*B64^4+m')
     case rel =>
      have h1:=HR.out
      have h2:=HG.out
      refine⟨k',m',rfl,by omega,h1.2.2.1,rfl,?_,RA.out,RR.out,BR.out⟩
      rw[h1.1,← h2.2,h2.1,LG,← h1.2.2.2,Nat.add_comm]
     case measure =>
      have h1:=HR.out
      have h2:=HG.out
      have h3:=HK.out
      have hB:=iO
      rw[h1.1,h2.1,hB,← h1.2.2.2]
      omega
 case first =>
  have hxz:w.heap.size+3≤X.heap.size:=by omega
  clear xz
  have hC0:C4 X (w.heap.size+1) hi:=⟨q0,q1,q2,q3⟩
  have hC:C4 X.drew (w.heap.size+1) hi:=⟨q0,q1,q2,q3⟩
  go_region_held3 (fun w'=>w'.cell? ⟨w.heap.size+1,0,none⟩=some (.int .u64 (wd hi 0:Int))∧w'.cell? ⟨w.heap.size+1,1,none⟩=some (.int .u64 (wd hi 1:Int))∧w'.cell? ⟨w.heap.size+1,2,none⟩=some (.int .u64 (wd hi 2:Int))∧w'.cell? ⟨w.heap.size+1,3,none⟩=some (.int .u64 (wd hi 3:Int))) (first | (with_reducible exact hC) | (focus ((repeat (first | (with_reducible assumption) | (with_reducible apply C4.alloc) | (with_reducible apply C4.drew) | (with_reducible apply C4.far) | (with_reducible apply C4.calls) | exact Nat.le_refl _ | omega | (simp;done)));done))) (first
   | (go_at_call 38;go_must (refine (KS.out _).mono ?_);rintro e w3 ⟨rfl,hb3⟩
      have hs3:=hb3.size
      (try simp at hs3)
      try (have N3:w3.heap[X.heap.size]?=some (.cells #[.int .u64 0,.int .u64 0,.int .u64 0,.int .u64 0] 24 (0,0)):=by
             refine keep ?_ hb3
             first
              | exact Aj X _
              | exact AP (Aj X _) _
           obtain⟨⟨c0,c1,c2,c3⟩,cf0,cf1,cf2,cf3⟩:=Aq N3)
      try (have M3:w3.heap[X.heap.size+1]?=some (.cells #[.int .u64 0,.int .u64 0,.int .u64 0,.int .u64 0] 24 (0,0)):=by
             refine keep ?_ hb3
             exact Cy X _ _
           obtain⟨⟨d0,d1,d2,d3⟩,df0,df1,df2,df3⟩:=Aq M3))
   | (go_at_call 99;go_must (refine (KM.out _).mono ?_);rintro e w4 ⟨rfl,hb4⟩
      have hs4:=hb4.size
      (try simp at hs4)
      try (have N4:w4.heap[X.heap.size]?=some (.cells #[.int .u64 0,.int .u64 0,.int .u64 0,.int .u64 0] 24 (0,0)):=by
             refine keep ?_ hb4
             first
              | exact N3
              | exact AP N3 _
           obtain⟨⟨g0,g1,g2,g3⟩,gf0,gf1,gf2,gf3⟩:=Aq N4
           have ga0:=fun o=>(Aq (AP N4 o)).1.1
           have ga1:=fun o=>(Aq (AP N4 o)).1.2.1
           have ga2:=fun o=>(Aq (AP N4 o)).1.2.2.1
           have ga3:=fun o=>(Aq (AP N4 o)).1.2.2.2
           have gz0:=fun o=>(Aq (AP N4 o)).2.1
           have gz1:=fun o=>(Aq (AP N4 o)).2.2.1
           have gz2:=fun o=>(Aq (AP N4 o)).2.2.2.1
           have gz3:=fun o=>(Aq (AP N4 o)).2.2.2.2)
      try (have M4:w4.heap[X.heap.size+1]?=some (.cells #[.int .u64 0,.int .u64 0,.int .u64 0,.int .u64 0] 24 (0,0)):=keep M3 hb4
           obtain⟨⟨h0,h1,h2,h3⟩,hf0,hf1,hf2,hf3⟩:=Aq M4)
      try (have O4:w4.heap[w3.heap.size]?=some (.cells #[.int .u64 0,.int .u64 0,.int .u64 0,.int .u64 0] 24 (0,0)):=by
             refine keep ?_ hb4
             first
              | exact Aj w3 _
              | exact AP (Aj w3 _) _
           obtain⟨⟨k0,k1,k2,k3⟩,kf0,kf1,kf2,kf3⟩:=Aq O4
           have ka0:=fun o=>(Aq (AP O4 o)).1.1
           have ka1:=fun o=>(Aq (AP O4 o)).1.2.1
           have ka2:=fun o=>(Aq (AP O4 o)).1.2.2.1
           have ka3:=fun o=>(Aq (AP O4 o)).1.2.2.2
           have kz0:=fun o=>(Aq (AP O4 o)).2.1
           have kz1:=fun o=>(Aq (AP O4 o)).2.2.1
           have kz2:=fun o=>(Aq (AP O4 o)).2.2.2.1
           have kz3:=fun o=>(Aq (AP O4 o)).2.2.2.2)
      try (have P4:w4.heap[w3.heap.size+1]?=some (.cells #[.int .u64 0,.int .u64 0,.int .u64 0,.int .u64 0] 24 (0,0)):=by
             refine keep ?_ hb4
             exact Cy w3 _ _
           obtain⟨⟨m0,m1,m2,m3⟩,mf0,mf1,mf2,mf3⟩:=Aq P4)
      try (have l1:X.heap.size≠w3.heap.size:=by omega
           have l2:w3.heap.size≠X.heap.size:=by omega)
      try (have l3:X.heap.size≠w4.heap.size:=by omega
           have l4:w4.heap.size≠X.heap.size:=by omega)
      try (have l5:w3.heap.size≠w4.heap.size:=by omega
           have l6:w4.heap.size≠w3.heap.size:=by omega)))
  all_goals
   rename_i hH
   clear hH
   have xA:=XA.out
   have xR:=XR.out
   have xW:=XW.out
   go_wp2_with fail
   go_meet
   case rel =>
    refine⟨_,_,rfl,rfl,?_,?_,?_,?_,?_⟩
    all_goals
     (focus ((repeat (first | (with_reducible assumption) | (with_reducible apply AN) | (with_reducible exact GY _ _ _) | (with_reducible exact SJ _ _ _ _) | (with_reducible exact S9 _ _ _ _) | (with_reducible exact G4 _ _ _ _) | (with_reducible apply IsA.far) | (with_reducible apply IsA.alloc) | (with_reducible apply IsA.drew) | (with_reducible apply AH) | (with_reducible apply Bh) | (with_reducible apply Bi) | (with_reducible apply Dc) | (with_reducible apply B0) | (with_reducible exact Aj _ _) | (with_reducible apply AP) | (with_reducible apply Gn) | exact Nat.le_refl _ | omega | (simp;done) | (simp;omega)));done))
end Go.Proofs.YtnaldciakclccaaGreat
