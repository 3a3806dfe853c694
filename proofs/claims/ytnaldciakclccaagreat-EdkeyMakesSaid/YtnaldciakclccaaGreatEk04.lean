/- (wide.Num).Len: what it answers. The number 2^255 - 19 is prime: by orders of numbers (Lucas), the factors' own primes likewise. No program in it. prime.P, prime.Small, prime.Num, prime.Bytes, prime.Odd (layer 19): contracts. prime.Mod (layer 19): its contract. prime.Sub, prime.Neg (layer 19): contracts. prime.rest (layer 19): its contract. -/
import Derived.Laws.MathBits
import Derived.Lib.ItoaNum
import Derived.Deep.LoopGhost
import Derived.Deep.AppendLies
import Derived.Test.YtnaldciakclccaaGreatEk03
import Derived.Test.YtnaldciakclccaaGreatEk01
import Derived.Test.YtnaldciakclccaaGreatShelfLen
namespace Go.Proofs.YtnaldciakclccaaGreat
set_option maxRecDepth 20000
set_option linter.unusedSimpArgs false
set_option linter.unusedVariables false
open Go.RowKit
theorem top_word (n i:Nat) (h:n/B64^(i+1)=0):n/B64^i=wd n i:=by
 have:=div_step n i
 rw[h] at this
 omega
theorem lib_bitLen (x:Nat) (h:x<2^64):Lib.bitLen x=Go.bitLen x:=by
 show Lib.bitLenAux 64 x=_
 by_cases h0:x=0
 ·subst h0;rw[Lib.bitLenAux_zero];rfl
 ·obtain⟨a,b,c⟩:=Lib.bitLenAux_bounds 64 x h h0
  obtain⟨c',b'⟩:=bitLen_spec x
  have b':=b' h0
  generalize Lib.bitLenAux 64 x=L at *
  generalize bitLen x=M at *
  have h1:L-1<M:=(Nat.pow_lt_pow_iff_right (by decide:1<2)).1 (Nat.lt_of_le_of_lt b c')
  have h2:M-1<L:=(Nat.pow_lt_pow_iff_right (by decide:1<2)).1 (Nat.lt_of_le_of_lt b' c)
  omega
theorem len_word (n i:Nat) (h:n/B64^(i+1)=0) (h0:wd n i≠0):Go.bitLen n=64*i+Go.bitLen (wd n i):=by
 have h1:=top_word n i h
 have h2:B64^i=2^(64*i):=by rw[show B64=2^64 from rfl,← Nat.pow_mul]
 rw[← h1] at h0 ⊢
 rw[h2] at h0 ⊢
 exact bitLen_shift n (64*i) h0
theorem bitLen_le64 (x:Nat) (h:x<18446744073709551616):Go.bitLen x≤64:=by
 obtain⟨_,b⟩:=bitLen_spec x
 by_cases h0:x=0
 ·subst h0;decide
 ·have:Go.bitLen x-1<64:=(Nat.pow_lt_pow_iff_right (by decide:1<2)).1 (Nat.lt_of_le_of_lt (b h0) h)
  omega
set_option maxHeartbeats 1000000 in
theorem len_any (n:Nat) (w:World) (hn:n<B64^4) :
    Calls Tryz.prog 159 #[numV n] w fun e w'=>e=.returned (.int .i64 (Go.bitLen n:Int))∧Below w.heap.size w w':=by
 rw[show numV n=.agg #[.int .u64 (wd n 0:Int),.int .u64 (wd n 1:Int),.int .u64 (wd n 2:Int),.int .u64 (wd n 3:Int)] from rfl]
 have x0:(w.alloc (.cells (numL n).toArray 24)).heap[w.heap.size]?=some (.cells (numL n).toArray 24 (0,0)):=alloc_new _ _
 have x1:Below w.heap.size w (w.alloc (.cells (numL n).toArray 24)):=gr_alloc (Below.refl _ _) _
 go_enter Tryz.func159,Tryz.ntmps159
 go_wp2_with fail
 change Code.wp _ _ _ _ (w.alloc (.cells (numL n).toArray 24))
 generalize w.alloc (.cells (numL n).toArray 24)=X at *
 go_loopw [3] (fun i wr=>∃ c:Nat,c≤4∧i=.int .i64 (kI c)∧n/B64^c=0∧∃ nq,X.drewN nq=wr) (fun i _=>(intOf i+1).toNat)
 case atStart=>exact⟨4,by omega,rfl,Nat.div_eq_of_lt hn,0,rfl⟩
 case round =>
  obtain⟨c,hc,rfl,hz,nq,rfl⟩:=hrel
  match c,hc with
  | 0,_ =>
    have HE:=Lib.hid (show Go.bitLen n=0 by
     rw[Nat.pow_zero,Nat.div_one] at hz
     rw[hz];rfl)
    rw[show kI 0 = -1 from rfl]
    clear hz x0
    go_wp2_with fail
    go_ret
    exact⟨ret_int (by rw[HE.out];rfl),below_drewN1 x1 nq⟩
  | d+1,hc =>
    rw[show kI (d+1)=(d:Int) by unfold kI;omega]
    have d3:(d:Int)<4:=by omega
    have d4:¬ (4:Int)≤(d:Int):=by omega
    have c0:(X.drewN nq).cell? ⟨w.heap.size,d,none⟩=some (.int .u64 (wd n d:Int)):=(arr_get x0 (numL_get n d (by omega))).1
    have hw:=wd_lt n d
    by_cases he:wd n d=0
    ·have HS:=Lib.hid (show n/B64^d=0 from (top_word n d hz).trans he)
     rw[he] at c0
     clear hz x0 he hw
     go_wp2_with fail
     go_roundw
     case rel=>exact⟨d,by omega,rfl,HS.out,_,rfl⟩
     case measure=>simp[intOf]
    ·have HE:=Lib.hid (len_word n d hz he)
     have q1:¬ ((wd n d:Int)=0):=by omega
     have q2:decide ((wd n d:Int)=0)=false:=by simpa using q1
     have q3:((wd n d:Int) == 0)=false:=by simpa using q1
     clear hz x0 he
     generalize hx:wd n d=x at *
     have BL:=Lib.hid (fun w=>Tryz.bits_Len64 (x:Int) w (by omega) (by omega))
     clear hx
     go_wp2_with fail
     refine (BL.out _).mono ?_
     rintro e w' ⟨rfl,rfl⟩
     have hbl:Lib.bitLen (x:Int).toNat≤64:=by rw[Int.toNat_natCast,lib_bitLen x hw];exact bitLen_le64 x hw
     have HB:=Lib.hid (show Lib.bitLen (x:Int).toNat=Go.bitLen x by rw[Int.toNat_natCast,lib_bitLen x hw])
     generalize Lib.bitLen (x:Int).toNat=y at *
     have hbl2:(y:Int)≤64:=by omega
     go_wp2_with fail
     go_ret
     exact⟨ret_int (by have:=HE.out;have:=HB.out;omega),below_drewN1 x1 nq⟩
def PrimeN (q:Nat):Prop:=2≤q∧∀ a b,q ∣ a*b→q ∣ a∨q ∣ b
/-- Powers, from the lowest bit on. -/
def pm (n:Nat):Nat→Nat→Nat→Nat→Nat
 | 0,_,_,acc=>acc
 | f+1,e,b,acc=>pm n f (e/2) (b*b%n) (bif Nat.beq (e%2) 1 then acc*b%n else acc)
theorem pow_half (b e:Nat):b^e=(b*b)^(e/2)*b^(e%2):=by
 rw[← Nat.pow_two,← Nat.pow_mul,← Nat.pow_add,Nat.div_add_mod]
theorem pm_eq (n:Nat):∀ f e b acc,e<2^f→pm n f e b acc%n=acc*b^e%n
 | 0,e,b,acc,h=>by
   have h0:e=0:=by simp at h;omega
   subst h0
   simp[pm]
 | f+1,e,b,acc,h=>by
   have h2:e/2<2^f:=by rw[Nat.pow_succ] at h;omega
   unfold pm
   rw[pm_eq n f _ _ _ h2,pow_half b e,Nat.mul_mod,Nat.pow_mod,Nat.mod_mod,← Nat.pow_mod]
   by_cases hb:e%2=1
   ·rw[hb]
    show ((acc*b%n)%n*((b*b)^(e/2)%n))%n=_
    rw[Nat.mod_mod,← Nat.mul_mod,Nat.pow_one]
    congr 1
    rw[Nat.mul_assoc,Nat.mul_comm b]
   ·have h0:e%2=0:=by omega
    rw[h0]
    show (acc%n*((b*b)^(e/2)%n))%n=_
    rw[← Nat.mul_mod,Nat.pow_zero,Nat.mul_one]
theorem prod_euclid:∀ (L:List Nat),(∀ q ∈ L,PrimeN q)→∀ k o,k*o=L.prod→(∀ q ∈ L,¬ q ∣ k)→k=1
 | [],_,k,o,h,_=>by
   have h1:k*o=1:=by simpa using h
   exact Nat.dvd_one.1 ⟨o,h1.symm⟩
 | q::L,hp,k,o,h,hn=>by
   rw[List.prod_cons] at h
   have hq:=hp q (List.mem_cons_self)
   have hd:q ∣ k*o:=⟨L.prod,h⟩
   rcases hq.2 k o hd with h1 | h1
   ·exact absurd h1 (hn q List.mem_cons_self)
   ·obtain⟨o',rfl⟩:=h1
    refine prod_euclid L (fun x hx=>hp x (List.mem_cons_of_mem _ hx)) k o' ?_ fun x hx=>hn x (List.mem_cons_of_mem _ hx)
    have h2:q*(k*o')=q*L.prod:=by rw[← h,← Nat.mul_assoc,← Nat.mul_assoc,Nat.mul_comm q k]
    exact Nat.eq_of_mul_eq_mul_left (by have:=hq.1;omega) h2
/-- What goes from below m to below m, no two to one, meets each. -/
theorem pigeons:∀ (m:Nat) (f:Nat→Nat),(∀ i,i<m→f i<m)→(∀ i j,i<m→j<m→f i=f j→i=j)→∀ y,y<m→∃ i,i<m∧f i=y
 | 0,_,_,_,_,hy=>absurd hy (by omega)
 | m+1,f,hf,hi,y,hy=>by
   have IH:=pigeons m (fun i=>if f i=m then f m else f i) (fun i h=>by
    show (if f i=m then f m else f i)<m
    have h1:=hf i (by omega)
    have h2:=hf m (by omega)
    by_cases h:f i=m
    ·rw[if_pos h]
     have:f m≠m:=fun e=>by have:=hi i m (by omega) (by omega) (by rw[h,e]);omega
     omega
    ·rw[if_neg h]
     omega) (fun i j h1 h2 h3=>by
    replace h3:(if f i=m then f m else f i)=(if f j=m then f m else f j):=h3
    by_cases a:f i=m
    ·by_cases b:f j=m
     ·exact hi i j (by omega) (by omega) (by rw[a,b])
     ·rw[if_pos a,if_neg b] at h3
      have:=hi m j (by omega) (by omega) h3
      omega
    ·by_cases b:f j=m
     ·rw[if_neg a,if_pos b] at h3
      have:=hi i m (by omega) (by omega) h3
      omega
     ·rw[if_neg a,if_neg b] at h3
      exact hi i j (by omega) (by omega) h3)
   have hm:=hf m (by omega)
   by_cases hym:y=f m
   ·exact⟨m,by omega,hym.symm⟩
   ·by_cases hy2:y=m
    ·subst hy2
     obtain⟨i,h1,h2⟩:=IH (f y) (by omega)
     replace h2:(if f i=y then f y else f i)=f y:=h2
     by_cases a:f i=y
     ·exact⟨i,by omega,a⟩
     ·rw[if_neg a] at h2
      have:=hi i y (by omega) (by omega) h2
      omega
    ·obtain⟨i,h1,h2⟩:=IH y (by omega)
     replace h2:(if f i=m then f m else f i)=y:=h2
     by_cases a:f i=m
     ·rw[if_pos a] at h2
      exact absurd h2.symm hym
     ·rw[if_neg a] at h2
      exact⟨i,by omega,h2⟩
theorem pow_one_mul {n g o:Nat} (h:g^o%n=1%n) (k:Nat):g^(o*k)%n=1%n:=by
 rw[Nat.pow_mul,Nat.pow_mod,h,← Nat.pow_mod,Nat.one_pow]
theorem pow_one_add {n g o:Nat} (h:g^o%n=1%n) (k:Nat):g^(o+k)%n=g^k%n:=by
 rw[Nat.pow_add,Nat.mul_mod,h,← Nat.mul_mod,Nat.one_mul]
theorem least:∀ (P:Nat→Prop),(∃ n,P n)→∃ n,P n∧∀ m,m<n→¬ P m:=fun P h=>by
 obtain⟨n,hn⟩:=h
 induction n using Nat.strongRecOn with
 | ind n ih =>
   by_cases hx:∃ m,m<n∧P m
   ·obtain⟨m,h1,h2⟩:=hx
    exact ih m h1 h2
   ·exact⟨n,hn,fun m h1 h2=>hx ⟨m,h1,h2⟩⟩
/-- A number's order is n - 1, if it is no less by any factor. -/
theorem order_full (n g:Nat) (L:List Nat) (hn:2≤n) (hL:n-1=L.prod) (hp:∀ q ∈ L,PrimeN q) (h1:g^(n-1)%n=1%n) (hq:∀ q ∈ L,g^((n-1)/q)%n≠1%n):∀ d,0<d→d<n-1→g^d%n≠1%n:=by
 obtain⟨o,⟨ho0,ho1⟩,hmin⟩:=least (fun d=>0<d∧g^d%n=1%n) ⟨n-1,by omega,h1⟩
 have hr:(n-1)%o=0:=by
  rcases Nat.eq_zero_or_pos ((n-1)%o) with h | h
  ·exact h
  ·refine absurd ⟨h,?_⟩ (hmin _ (Nat.mod_lt _ ho0))
   have e:g^(n-1)%n=g^((n-1)%o)%n:=by
    conv=>lhs;rw[← Nat.div_add_mod (n-1) o]
    exact pow_one_add (pow_one_mul ho1 _) _
   rw[← e]
   exact h1
 obtain⟨k,hk⟩:=Nat.dvd_of_mod_eq_zero hr
 have hk1:k=1:=by
  refine prod_euclid L hp k o (by rw[← hL,hk,Nat.mul_comm]) fun q hqL hd=>?_
  obtain⟨k',rfl⟩:=hd
  have hq2:=(hp q hqL).1
  refine hq q hqL ?_
  have e:(n-1)/q=o*k':=by
   rw[hk,show o*(q*k')=q*(o*k') by rw[← Nat.mul_assoc,Nat.mul_comm o q,Nat.mul_assoc],Nat.mul_div_cancel_left _ (by omega)]
  rw[e]
  exact pow_one_mul ho1 _
 subst hk1
 rw[Nat.mul_one] at hk
 intro d hd0 hd1 hd
 exact hmin d (by omega) ⟨hd0,hd⟩
theorem one_mod {n:Nat} (hn:2≤n):1%n=1:=Nat.mod_eq_of_lt (by omega)
theorem powers_apart (n g:Nat) (hn:2≤n) (h1:g^(n-1)%n=1%n) (hd:∀ d,0<d→d<n-1→g^d%n≠1%n) (i j:Nat) (hij:i<j) (hj:j<n-1):g^i%n≠g^j%n:=fun h=>by
 refine hd (j-i) (by omega) (by omega) ?_
 have e1:g^(n-1-i)*g^i%n=1%n:=by rw[← Nat.pow_add,show n-1-i+i=n-1 by omega];exact h1
 have e2:g^(n-1-i)*g^j%n=g^(j-i)%n:=by
  rw[← Nat.pow_add,show n-1-i+j=n-1+(j-i) by omega]
  exact pow_one_add h1 _
 rw[← e2,Nat.mul_mod,← h,← Nat.mul_mod,e1]
theorem power_pos (n g:Nat) (hn:2≤n) (h1:g^(n-1)%n=1%n) (i:Nat) (hi:i≤n-1):0<g^i%n:=by
 rcases Nat.eq_zero_or_pos (g^i%n) with h | h
 ·have e1:g^(n-1-i)*g^i%n=1%n:=by rw[← Nat.pow_add,show n-1-i+i=n-1 by omega];exact h1
  rw[Nat.mul_mod,h,Nat.mul_zero,Nat.zero_mod,one_mod hn] at e1
  omega
 ·exact h
theorem powers_all (n g:Nat) (hn:2≤n) (h1:g^(n-1)%n=1%n) (hd:∀ d,0<d→d<n-1→g^d%n≠1%n) (a:Nat) (ha:a%n≠0):∃ i,i<n-1∧g^i%n=a%n:=by
 have hlt:=Nat.mod_lt a (show 0<n by omega)
 obtain⟨i,hi,he⟩:=pigeons (n-1) (fun i=>g^i%n-1) (fun i hi=>by
  show g^i%n-1<n-1
  have:=power_pos n g hn h1 i (by omega)
  have:=Nat.mod_lt (g^i) (show 0<n by omega)
  omega) (fun i j hi hj h=>by
  replace h:g^i%n-1=g^j%n-1:=h
  have p1:=power_pos n g hn h1 i (by omega)
  have p2:=power_pos n g hn h1 j (by omega)
  have e:g^i%n=g^j%n:=by omega
  rcases Nat.lt_trichotomy i j with hl | hl | hl
  ·exact absurd e (powers_apart n g hn h1 hd i j hl hj)
  ·exact hl
  ·exact absurd e.symm (powers_apart n g hn h1 hd j i hl hi)) (a%n-1) (by omega)
 replace he:g^i%n-1=a%n-1:=he
 have p1:=power_pos n g hn h1 i (by omega)
 exact⟨i,hi,by omega⟩
theorem fermat_of (n g:Nat) (hn:2≤n) (h1:g^(n-1)%n=1%n) (hd:∀ d,0<d→d<n-1→g^d%n≠1%n) (a:Nat) (ha:a%n≠0):a^(n-1)%n=1%n:=by
 obtain⟨i,_,he⟩:=powers_all n g hn h1 hd a ha
 rw[Nat.pow_mod,← he,← Nat.pow_mod,← Nat.pow_mul,Nat.mul_comm]
 exact pow_one_mul h1 i
theorem prime_of (n g:Nat) (hn:2≤n) (h1:g^(n-1)%n=1%n) (hd:∀ d,0<d→d<n-1→g^d%n≠1%n):PrimeN n:=by
 refine⟨hn,fun a b h=>?_⟩
 by_cases ha:a%n=0
 ·exact .inl (Nat.dvd_of_mod_eq_zero ha)
 ·refine .inr (Nat.dvd_of_mod_eq_zero ?_)
  have hf:=fermat_of n g hn h1 hd a ha
  have e:a^(n-1-1)*(a*b)%n=b%n:=by
   rw[← Nat.mul_assoc,← Nat.pow_succ,show (n-1-1).succ=n-1 from (by omega:n-1-1+1=n-1),Nat.mul_mod,hf,← Nat.mul_mod,Nat.one_mul]
  rw[← e,Nat.mul_mod,Nat.mod_eq_zero_of_dvd h,Nat.mul_zero,Nat.zero_mod]
/-- What the kernel reckons of a number, a base and the factors. -/
def cert (n g:Nat) (L:List Nat):Bool:=Nat.beq (L.prod+1) n && Nat.beq (pm n 256 (n-1) g 1%n) 1 && L.all fun q=>!Nat.beq (pm n 256 ((n-1)/q) g 1%n) 1
theorem order_cert (n g:Nat) (L:List Nat) (hn:2≤n) (hN:n<2^256) (h:cert n g L=true) (hp:∀ q ∈ L,PrimeN q):g^(n-1)%n=1%n∧∀ d,0<d→d<n-1→g^d%n≠1%n:=by
 unfold cert at h
 rw[Bool.and_eq_true,Bool.and_eq_true] at h
 obtain⟨⟨hL,h1⟩,hq⟩:=h
 have hL:=Nat.eq_of_beq_eq_true hL
 have h1:=Nat.eq_of_beq_eq_true h1
 rw[pm_eq n 256 (n-1) g 1 (by omega),Nat.one_mul] at h1
 have h1':g^(n-1)%n=1%n:=by rw[h1,one_mod hn]
 refine⟨h1',order_full n g L hn (by omega) hp h1' fun q hqL he=>?_⟩
 have hx:=List.all_eq_true.1 hq q hqL
 rw[pm_eq n 256 ((n-1)/q) g 1 (Nat.lt_of_le_of_lt (Nat.div_le_self _ _) (by omega)),Nat.one_mul,he,one_mod hn] at hx
 cases hx
theorem prime_cert (n g:Nat) (L:List Nat) (hn:2≤n) (hN:n<2^256) (h:cert n g L=true) (hp:∀ q ∈ L,PrimeN q):PrimeN n :=
 prime_of n g hn (order_cert n g L hn hN h hp).1 (order_cert n g L hn hN h hp).2
theorem prime2:PrimeN 2:=by
 refine⟨Nat.le_refl _,fun a b h=>?_⟩
 have h0:=Nat.mod_eq_zero_of_dvd h
 rw[Nat.mul_mod] at h0
 rcases Nat.mod_two_eq_zero_or_one a with e | e
 ·exact .inl (Nat.dvd_of_mod_eq_zero e)
 ·rcases Nat.mod_two_eq_zero_or_one b with f | f
  ·exact .inr (Nat.dvd_of_mod_eq_zero f)
  ·rw[e,f] at h0
   cases h0
theorem prime3:PrimeN 3:=prime_cert 3 2 [2] (by decide +kernel) (by decide +kernel) (by decide +kernel) fun q hq=>by
 simp only[List.mem_cons,List.not_mem_nil,or_false] at hq
 subst hq
 ·exact prime2
theorem prime5:PrimeN 5:=prime_cert 5 2 [2,2] (by decide +kernel) (by decide +kernel) (by decide +kernel) fun q hq=>by
 simp only[List.mem_cons,List.not_mem_nil,or_false] at hq
 rcases hq with rfl | rfl
 ·exact prime2
 ·exact prime2
theorem prime7:PrimeN 7:=prime_cert 7 3 [2,3] (by decide +kernel) (by decide +kernel) (by decide +kernel) fun q hq=>by
 simp only[List.mem_cons,List.not_mem_nil,or_false] at hq
 rcases hq with rfl | rfl
 ·exact prime2
 ·exact prime3
theorem prime11:PrimeN 11:=prime_cert 11 2 [2,5] (by decide +kernel) (by decide +kernel) (by decide +kernel) fun q hq=>by
 simp only[List.mem_cons,List.not_mem_nil,or_false] at hq
 rcases hq with rfl | rfl
 ·exact prime2
 ·exact prime5
theorem prime13:PrimeN 13:=prime_cert 13 2 [2,2,3] (by decide +kernel) (by decide +kernel) (by decide +kernel) fun q hq=>by
 simp only[List.mem_cons,List.not_mem_nil,or_false] at hq
 rcases hq with rfl | rfl | rfl
 ·exact prime2
 ·exact prime2
 ·exact prime3
theorem prime17:PrimeN 17:=prime_cert 17 3 [2,2,2,2] (by decide +kernel) (by decide +kernel) (by decide +kernel) fun q hq=>by
 simp only[List.mem_cons,List.not_mem_nil,or_false] at hq
 rcases hq with rfl | rfl | rfl | rfl
 ·exact prime2
 ·exact prime2
 ·exact prime2
 ·exact prime2
theorem prime19:PrimeN 19:=prime_cert 19 2 [2,3,3] (by decide +kernel) (by decide +kernel) (by decide +kernel) fun q hq=>by
 simp only[List.mem_cons,List.not_mem_nil,or_false] at hq
 rcases hq with rfl | rfl | rfl
 ·exact prime2
 ·exact prime3
 ·exact prime3
theorem prime23:PrimeN 23:=prime_cert 23 5 [2,11] (by decide +kernel) (by decide +kernel) (by decide +kernel) fun q hq=>by
 simp only[List.mem_cons,List.not_mem_nil,or_false] at hq
 rcases hq with rfl | rfl
 ·exact prime2
 ·exact prime11
theorem prime29:PrimeN 29:=prime_cert 29 2 [2,2,7] (by decide +kernel) (by decide +kernel) (by decide +kernel) fun q hq=>by
 simp only[List.mem_cons,List.not_mem_nil,or_false] at hq
 rcases hq with rfl | rfl | rfl
 ·exact prime2
 ·exact prime2
 ·exact prime7
theorem prime31:PrimeN 31:=prime_cert 31 3 [2,3,5] (by decide +kernel) (by decide +kernel) (by decide +kernel) fun q hq=>by
 simp only[List.mem_cons,List.not_mem_nil,or_false] at hq
 rcases hq with rfl | rfl | rfl
 ·exact prime2
 ·exact prime3
 ·exact prime5
theorem prime37:PrimeN 37:=prime_cert 37 2 [2,2,3,3] (by decide +kernel) (by decide +kernel) (by decide +kernel) fun q hq=>by
 simp only[List.mem_cons,List.not_mem_nil,or_false] at hq
 rcases hq with rfl | rfl | rfl | rfl
 ·exact prime2
 ·exact prime2
 ·exact prime3
 ·exact prime3
theorem prime41:PrimeN 41:=prime_cert 41 6 [2,2,2,5] (by decide +kernel) (by decide +kernel) (by decide +kernel) fun q hq=>by
 simp only[List.mem_cons,List.not_mem_nil,or_false] at hq
 rcases hq with rfl | rfl | rfl | rfl
 ·exact prime2
 ·exact prime2
 ·exact prime2
 ·exact prime5
theorem prime43:PrimeN 43:=prime_cert 43 3 [2,3,7] (by decide +kernel) (by decide +kernel) (by decide +kernel) fun q hq=>by
 simp only[List.mem_cons,List.not_mem_nil,or_false] at hq
 rcases hq with rfl | rfl | rfl
 ·exact prime2
 ·exact prime3
 ·exact prime7
theorem prime47:PrimeN 47:=prime_cert 47 5 [2,23] (by decide +kernel) (by decide +kernel) (by decide +kernel) fun q hq=>by
 simp only[List.mem_cons,List.not_mem_nil,or_false] at hq
 rcases hq with rfl | rfl
 ·exact prime2
 ·exact prime23
theorem prime53:PrimeN 53:=prime_cert 53 2 [2,2,13] (by decide +kernel) (by decide +kernel) (by decide +kernel) fun q hq=>by
 simp only[List.mem_cons,List.not_mem_nil,or_false] at hq
 rcases hq with rfl | rfl | rfl
 ·exact prime2
 ·exact prime2
 ·exact prime13
theorem prime59:PrimeN 59:=prime_cert 59 2 [2,29] (by decide +kernel) (by decide +kernel) (by decide +kernel) fun q hq=>by
 simp only[List.mem_cons,List.not_mem_nil,or_false] at hq
 rcases hq with rfl | rfl
 ·exact prime2
 ·exact prime29
theorem prime83:PrimeN 83:=prime_cert 83 2 [2,41] (by decide +kernel) (by decide +kernel) (by decide +kernel) fun q hq=>by
 simp only[List.mem_cons,List.not_mem_nil,or_false] at hq
 rcases hq with rfl | rfl
 ·exact prime2
 ·exact prime41
theorem prime97:PrimeN 97:=prime_cert 97 5 [2,2,2,2,2,3] (by decide +kernel) (by decide +kernel) (by decide +kernel) fun q hq=>by
 simp only[List.mem_cons,List.not_mem_nil,or_false] at hq
 rcases hq with rfl | rfl | rfl | rfl | rfl | rfl
 ·exact prime2
 ·exact prime2
 ·exact prime2
 ·exact prime2
 ·exact prime2
 ·exact prime3
theorem prime103:PrimeN 103:=prime_cert 103 5 [2,3,17] (by decide +kernel) (by decide +kernel) (by decide +kernel) fun q hq=>by
 simp only[List.mem_cons,List.not_mem_nil,or_false] at hq
 rcases hq with rfl | rfl | rfl
 ·exact prime2
 ·exact prime3
 ·exact prime17
theorem prime107:PrimeN 107:=prime_cert 107 2 [2,53] (by decide +kernel) (by decide +kernel) (by decide +kernel) fun q hq=>by
 simp only[List.mem_cons,List.not_mem_nil,or_false] at hq
 rcases hq with rfl | rfl
 ·exact prime2
 ·exact prime53
theorem prime127:PrimeN 127:=prime_cert 127 3 [2,3,3,7] (by decide +kernel) (by decide +kernel) (by decide +kernel) fun q hq=>by
 simp only[List.mem_cons,List.not_mem_nil,or_false] at hq
 rcases hq with rfl | rfl | rfl | rfl
 ·exact prime2
 ·exact prime3
 ·exact prime3
 ·exact prime7
theorem prime131:PrimeN 131:=prime_cert 131 2 [2,5,13] (by decide +kernel) (by decide +kernel) (by decide +kernel) fun q hq=>by
 simp only[List.mem_cons,List.not_mem_nil,or_false] at hq
 rcases hq with rfl | rfl | rfl
 ·exact prime2
 ·exact prime5
 ·exact prime13
theorem prime173:PrimeN 173:=prime_cert 173 2 [2,2,43] (by decide +kernel) (by decide +kernel) (by decide +kernel) fun q hq=>by
 simp only[List.mem_cons,List.not_mem_nil,or_false] at hq
 rcases hq with rfl | rfl | rfl
 ·exact prime2
 ·exact prime2
 ·exact prime43
theorem prime223:PrimeN 223:=prime_cert 223 3 [2,3,37] (by decide +kernel) (by decide +kernel) (by decide +kernel) fun q hq=>by
 simp only[List.mem_cons,List.not_mem_nil,or_false] at hq
 rcases hq with rfl | rfl | rfl
 ·exact prime2
 ·exact prime3
 ·exact prime37
theorem prime239:PrimeN 239:=prime_cert 239 7 [2,7,17] (by decide +kernel) (by decide +kernel) (by decide +kernel) fun q hq=>by
 simp only[List.mem_cons,List.not_mem_nil,or_false] at hq
 rcases hq with rfl | rfl | rfl
 ·exact prime2
 ·exact prime7
 ·exact prime17
theorem prime353:PrimeN 353:=prime_cert 353 3 [2,2,2,2,2,11] (by decide +kernel) (by decide +kernel) (by decide +kernel) fun q hq=>by
 simp only[List.mem_cons,List.not_mem_nil,or_false] at hq
 rcases hq with rfl | rfl | rfl | rfl | rfl | rfl
 ·exact prime2
 ·exact prime2
 ·exact prime2
 ·exact prime2
 ·exact prime2
 ·exact prime11
theorem prime419:PrimeN 419:=prime_cert 419 2 [2,11,19] (by decide +kernel) (by decide +kernel) (by decide +kernel) fun q hq=>by
 simp only[List.mem_cons,List.not_mem_nil,or_false] at hq
 rcases hq with rfl | rfl | rfl
 ·exact prime2
 ·exact prime11
 ·exact prime19
theorem prime479:PrimeN 479:=prime_cert 479 13 [2,239] (by decide +kernel) (by decide +kernel) (by decide +kernel) fun q hq=>by
 simp only[List.mem_cons,List.not_mem_nil,or_false] at hq
 rcases hq with rfl | rfl
 ·exact prime2
 ·exact prime239
theorem prime487:PrimeN 487:=prime_cert 487 3 [2,3,3,3,3,3] (by decide +kernel) (by decide +kernel) (by decide +kernel) fun q hq=>by
 simp only[List.mem_cons,List.not_mem_nil,or_false] at hq
 rcases hq with rfl | rfl | rfl | rfl | rfl | rfl
 ·exact prime2
 ·exact prime3
 ·exact prime3
 ·exact prime3
 ·exact prime3
 ·exact prime3
theorem prime991:PrimeN 991:=prime_cert 991 6 [2,3,3,5,11] (by decide +kernel) (by decide +kernel) (by decide +kernel) fun q hq=>by
 simp only[List.mem_cons,List.not_mem_nil,or_false] at hq
 rcases hq with rfl | rfl | rfl | rfl | rfl
 ·exact prime2
 ·exact prime3
 ·exact prime3
 ·exact prime5
 ·exact prime11
theorem prime1723:PrimeN 1723:=prime_cert 1723 3 [2,3,7,41] (by decide +kernel) (by decide +kernel) (by decide +kernel) fun q hq=>by
 simp only[List.mem_cons,List.not_mem_nil,or_false] at hq
 rcases hq with rfl | rfl | rfl | rfl
 ·exact prime2
 ·exact prime3
 ·exact prime7
 ·exact prime41
theorem prime2437:PrimeN 2437:=prime_cert 2437 2 [2,2,3,7,29] (by decide +kernel) (by decide +kernel) (by decide +kernel) fun q hq=>by
 simp only[List.mem_cons,List.not_mem_nil,or_false] at hq
 rcases hq with rfl | rfl | rfl | rfl | rfl
 ·exact prime2
 ·exact prime2
 ·exact prime3
 ·exact prime7
 ·exact prime29
theorem prime3727:PrimeN 3727:=prime_cert 3727 3 [2,3,3,3,3,23] (by decide +kernel) (by decide +kernel) (by decide +kernel) fun q hq=>by
 simp only[List.mem_cons,List.not_mem_nil,or_false] at hq
 rcases hq with rfl | rfl | rfl | rfl | rfl | rfl
 ·exact prime2
 ·exact prime3
 ·exact prime3
 ·exact prime3
 ·exact prime3
 ·exact prime23
theorem prime4153:PrimeN 4153:=prime_cert 4153 5 [2,2,2,3,173] (by decide +kernel) (by decide +kernel) (by decide +kernel) fun q hq=>by
 simp only[List.mem_cons,List.not_mem_nil,or_false] at hq
 rcases hq with rfl | rfl | rfl | rfl | rfl
 ·exact prime2
 ·exact prime2
 ·exact prime2
 ·exact prime3
 ·exact prime173
theorem prime9463:PrimeN 9463:=prime_cert 9463 3 [2,3,19,83] (by decide +kernel) (by decide +kernel) (by decide +kernel) fun q hq=>by
 simp only[List.mem_cons,List.not_mem_nil,or_false] at hq
 rcases hq with rfl | rfl | rfl | rfl
 ·exact prime2
 ·exact prime3
 ·exact prime19
 ·exact prime83
theorem prime32573:PrimeN 32573:=prime_cert 32573 2 [2,2,17,479] (by decide +kernel) (by decide +kernel) (by decide +kernel) fun q hq=>by
 simp only[List.mem_cons,List.not_mem_nil,or_false] at hq
 rcases hq with rfl | rfl | rfl | rfl
 ·exact prime2
 ·exact prime2
 ·exact prime17
 ·exact prime479
theorem prime37853:PrimeN 37853:=prime_cert 37853 2 [2,2,9463] (by decide +kernel) (by decide +kernel) (by decide +kernel) fun q hq=>by
 simp only[List.mem_cons,List.not_mem_nil,or_false] at hq
 rcases hq with rfl | rfl | rfl
 ·exact prime2
 ·exact prime2
 ·exact prime9463
theorem prime57467:PrimeN 57467:=prime_cert 57467 2 [2,59,487] (by decide +kernel) (by decide +kernel) (by decide +kernel) fun q hq=>by
 simp only[List.mem_cons,List.not_mem_nil,or_false] at hq
 rcases hq with rfl | rfl | rfl
 ·exact prime2
 ·exact prime59
 ·exact prime487
theorem prime65147:PrimeN 65147:=prime_cert 65147 2 [2,32573] (by decide +kernel) (by decide +kernel) (by decide +kernel) fun q hq=>by
 simp only[List.mem_cons,List.not_mem_nil,or_false] at hq
 rcases hq with rfl | rfl
 ·exact prime2
 ·exact prime32573
theorem prime75707:PrimeN 75707:=prime_cert 75707 2 [2,37853] (by decide +kernel) (by decide +kernel) (by decide +kernel) fun q hq=>by
 simp only[List.mem_cons,List.not_mem_nil,or_false] at hq
 rcases hq with rfl | rfl
 ·exact prime2
 ·exact prime37853
theorem prime132049:PrimeN 132049:=prime_cert 132049 26 [2,2,2,2,3,3,7,131] (by decide +kernel) (by decide +kernel) (by decide +kernel) fun q hq=>by
 simp only[List.mem_cons,List.not_mem_nil,or_false] at hq
 rcases hq with rfl | rfl | rfl | rfl | rfl | rfl | rfl | rfl
 ·exact prime2
 ·exact prime2
 ·exact prime2
 ·exact prime2
 ·exact prime3
 ·exact prime3
 ·exact prime7
 ·exact prime131
theorem prime430751:PrimeN 430751:=prime_cert 430751 17 [2,5,5,5,1723] (by decide +kernel) (by decide +kernel) (by decide +kernel) fun q hq=>by
 simp only[List.mem_cons,List.not_mem_nil,or_false] at hq
 rcases hq with rfl | rfl | rfl | rfl | rfl
 ·exact prime2
 ·exact prime5
 ·exact prime5
 ·exact prime5
 ·exact prime1723
theorem prime569003:PrimeN 569003:=prime_cert 569003 2 [2,7,97,419] (by decide +kernel) (by decide +kernel) (by decide +kernel) fun q hq=>by
 simp only[List.mem_cons,List.not_mem_nil,or_false] at hq
 rcases hq with rfl | rfl | rfl | rfl
 ·exact prime2
 ·exact prime7
 ·exact prime97
 ·exact prime419
theorem prime1923133:PrimeN 1923133:=prime_cert 1923133 2 [2,2,3,43,3727] (by decide +kernel) (by decide +kernel) (by decide +kernel) fun q hq=>by
 simp only[List.mem_cons,List.not_mem_nil,or_false] at hq
 rcases hq with rfl | rfl | rfl | rfl | rfl
 ·exact prime2
 ·exact prime2
 ·exact prime3
 ·exact prime43
 ·exact prime3727
theorem prime8574133:PrimeN 8574133:=prime_cert 8574133 2 [2,2,3,7,103,991] (by decide +kernel) (by decide +kernel) (by decide +kernel) fun q hq=>by
 simp only[List.mem_cons,List.not_mem_nil,or_false] at hq
 rcases hq with rfl | rfl | rfl | rfl | rfl | rfl
 ·exact prime2
 ·exact prime2
 ·exact prime3
 ·exact prime7
 ·exact prime103
 ·exact prime991
theorem prime2773320623:PrimeN 2773320623:=prime_cert 2773320623 5 [2,2437,569003] (by decide +kernel) (by decide +kernel) (by decide +kernel) fun q hq=>by
 simp only[List.mem_cons,List.not_mem_nil,or_false] at hq
 rcases hq with rfl | rfl | rfl
 ·exact prime2
 ·exact prime2437
 ·exact prime569003
theorem prime72106336199:PrimeN 72106336199:=prime_cert 72106336199 7 [2,13,2773320623] (by decide +kernel) (by decide +kernel) (by decide +kernel) fun q hq=>by
 simp only[List.mem_cons,List.not_mem_nil,or_false] at hq
 rcases hq with rfl | rfl | rfl
 ·exact prime2
 ·exact prime13
 ·exact prime2773320623
theorem primeBig0:PrimeN 1919519569386763:=prime_cert 1919519569386763 2 [2,3,7,19,47,47,127,8574133] (by decide +kernel) (by decide +kernel) (by decide +kernel) fun q hq=>by
 simp only[List.mem_cons,List.not_mem_nil,or_false] at hq
 rcases hq with rfl | rfl | rfl | rfl | rfl | rfl | rfl | rfl
 ·exact prime2
 ·exact prime3
 ·exact prime7
 ·exact prime19
 ·exact prime47
 ·exact prime47
 ·exact prime127
 ·exact prime8574133
theorem primeBig1:PrimeN 31757755568855353:=prime_cert 31757755568855353 10 [2,2,2,3,31,107,223,4153,430751] (by decide +kernel) (by decide +kernel) (by decide +kernel) fun q hq=>by
 simp only[List.mem_cons,List.not_mem_nil,or_false] at hq
 rcases hq with rfl | rfl | rfl | rfl | rfl | rfl | rfl | rfl | rfl
 ·exact prime2
 ·exact prime2
 ·exact prime2
 ·exact prime3
 ·exact prime31
 ·exact prime107
 ·exact prime223
 ·exact prime4153
 ·exact prime430751
theorem primeBig2:PrimeN 75445702479781427272750846543864801:=prime_cert 75445702479781427272750846543864801 7 [2,2,2,2,2,3,3,5,5,75707,72106336199,1919519569386763] (by decide +kernel) (by decide +kernel) (by decide +kernel) fun q hq=>by
 simp only[List.mem_cons,List.not_mem_nil,or_false] at hq
 rcases hq with rfl | rfl | rfl | rfl | rfl | rfl | rfl | rfl | rfl | rfl | rfl | rfl
 ·exact prime2
 ·exact prime2
 ·exact prime2
 ·exact prime2
 ·exact prime2
 ·exact prime3
 ·exact prime3
 ·exact prime5
 ·exact prime5
 ·exact prime75707
 ·exact prime72106336199
 ·exact primeBig0
theorem primeBig3:PrimeN 74058212732561358302231226437062788676166966415465897661863160754340907:=prime_cert 74058212732561358302231226437062788676166966415465897661863160754340907 2 [2,3,353,57467,132049,1923133,31757755568855353,75445702479781427272750846543864801] (by decide +kernel) (by decide +kernel) (by decide +kernel) fun q hq=>by
 simp only[List.mem_cons,List.not_mem_nil,or_false] at hq
 rcases hq with rfl | rfl | rfl | rfl | rfl | rfl | rfl | rfl
 ·exact prime2
 ·exact prime3
 ·exact prime353
 ·exact prime57467
 ·exact prime132049
 ·exact prime1923133
 ·exact primeBig1
 ·exact primeBig2
def PN:Nat:=57896044618658097711785492504343953926634992332820282019728792003956564819949
theorem PN_ge:2≤PN:=by decide +kernel
theorem PN_pos:0<PN:=by decide +kernel
theorem PN_lt:PN<2^256:=by decide +kernel
theorem orderP:2^(PN-1)%PN=1%PN∧∀ d,0<d→d<PN-1→2^d%PN≠1%PN:=order_cert PN 2 [2,2,3,65147,74058212732561358302231226437062788676166966415465897661863160754340907] PN_ge PN_lt (by decide +kernel) fun q hq=>by
 simp only[List.mem_cons,List.not_mem_nil,or_false] at hq
 rcases hq with rfl | rfl | rfl | rfl | rfl
 ·exact prime2
 ·exact prime2
 ·exact prime3
 ·exact prime65147
 ·exact primeBig3
theorem primeP:PrimeN PN:=prime_of PN 2 PN_ge orderP.1 orderP.2
theorem fermatP (a:Nat) (ha:a%PN≠0):a^(PN-1)%PN=1:=by
 rw[fermat_of PN 2 PN_ge orderP.1 orderP.2 a ha]
 exact one_mod PN_ge
theorem PN_B:PN<B64^4:=by decide +kernel
theorem num_PN:numV PN=.agg #[.int .u64 18446744073709551597,.int .u64 18446744073709551615,.int .u64 18446744073709551615,.int .u64 9223372036854775807]:=by
 unfold numV
 rw[show wd PN 0=18446744073709551597 by decide +kernel,show wd PN 1=18446744073709551615 by decide +kernel,show wd PN 2=18446744073709551615 by decide +kernel,show wd PN 3=9223372036854775807 by decide +kernel]
 rfl
theorem load_num {W:World} {b n:Nat} (h:IsA W b n 24):(loadVar 24 ⟨b,0,none⟩).run Tryz.prog W=.ok (numV n) W :=
 run_loadVar_row (P:=Tryz.prog) W b 24 24 _ (0,0) _ h Tryz.underlying24 rfl (by kernel_rfl)
theorem load_arr {W:World} {b n:Nat} (h:IsA W b n 23):(loadVar 23 ⟨b,0,none⟩).run Tryz.prog W=.ok (numV n) W :=
 run_loadVar_row (P:=Tryz.prog) W b 23 23 _ (0,0) _ h Tryz.underlying23 rfl (by kernel_rfl)
theorem load_el {W:World} {b n:Nat} (h:IsA W b n 36):(loadVar 36 ⟨b,0,none⟩).run Tryz.prog W=.ok (numV n) W :=
 run_loadVar_row (P:=Tryz.prog) W b 36 36 _ (0,0) _ h Tryz.underlying36 rfl (by kernel_rfl)
theorem numV_agg (n:Nat):numV n=.agg #[.int .u64 (wd n 0:Int),.int .u64 (wd n 1:Int),.int .u64 (wd n 2:Int),.int .u64 (wd n 3:Int)]:=rfl
theorem num_zero:numV 0=.agg #[.int .u64 0,.int .u64 0,.int .u64 0,.int .u64 0]:=by kernel_rfl
theorem isA_zero {W:World} {b:Nat} {t:TypeId} (h:W.heap[b]?=some (.cells #[.int .u64 0,.int .u64 0,.int .u64 0,.int .u64 0] t (0,0))):IsA W b 0 t:=by
 unfold IsA
 rw[show wd 0 0=0 by decide +kernel,show wd 0 1=0 by decide +kernel,show wd 0 2=0 by decide +kernel,show wd 0 3=0 by decide +kernel]
 exact h
theorem isA_zero' {W:World} {b:Nat} {t:TypeId} (h:IsA W b 0 t):W.heap[b]?=some (.cells #[.int .u64 0,.int .u64 0,.int .u64 0,.int .u64 0] t (0,0)):=by
 unfold IsA at h
 rw[show wd 0 0=0 by decide +kernel,show wd 0 1=0 by decide +kernel,show wd 0 2=0 by decide +kernel,show wd 0 3=0 by decide +kernel] at h
 exact h
theorem cells4 {w:World} {b1 x:Nat} {t1:TypeId} (h1:IsA w b1 x t1) :
    w.cell? ⟨b1,0,none⟩=some (.int .u64 (wd x 0:Int))∧w.cell? ⟨b1,1,none⟩=some (.int .u64 (wd x 1:Int))∧w.cell? ⟨b1,2,none⟩=some (.int .u64 (wd x 2:Int))∧w.cell? ⟨b1,3,none⟩=some (.int .u64 (wd x 3:Int)):=(fourV h1).1
theorem p_any (w:World):Calls Tryz.prog 75 #[] w fun e w'=>e=.returned (numV PN)∧Below w.heap.size w w':=by
 have kl:=load_num (W:=w.alloc (.cells (numL PN).toArray 24)) (b:=w.heap.size) (n:=PN) (alloc_new _ _)
 have e1:(numL PN).toArray=#[.int .u64 18446744073709551597,.int .u64 18446744073709551615,.int .u64 18446744073709551615,.int .u64 9223372036854775807]:=by
  have h:=num_PN
  unfold numV at h
  unfold numL
  injection h
 rw[e1,num_PN] at kl
 rw[num_PN]
 have KL:=Lib.hid kl
 clear kl e1
 go_enter Tryz.func75,Tryz.ntmps75
 go_wp2_with fail
 exact bodyPost_ret (results_arr Tryz.results75 (by rfl) KL.out) rfl ⟨rfl,gr_alloc (Below.refl _ _) _⟩
def Z1 (t:TypeId) (w:World):World:=w.alloc (.cells #[.int .u64 0,.int .u64 0,.int .u64 0,.int .u64 0] t)
theorem z1_at (t:TypeId) (w:World):IsA (Z1 t w) w.heap.size 0 t∧(Z1 t w).heap.size=w.heap.size+1∧Below w.heap.size w (Z1 t w):=⟨isA_zero (alloc_new w _),by unfold Z1;simp,gr_alloc (Below.refl _ _) _⟩
theorem psmall_any (a:Nat) (w:World) (ha:a<18446744073709551616):Calls Tryz.prog 34 #[.int .u64 (a:Int)] w fun e w'=>e=.returned (numV a)∧Below w.heap.size w w':=by
 obtain⟨xr,xz,xB⟩:=z1_at 36 w
 have K:=Lib.hid (fun w=>small_any a w ha)
 simp only[numV_agg] at K ⊢
 go_enter Tryz.func34,Tryz.ntmps34
 go_wp2_with fail
 change Calls _ _ _ (Z1 36 w) _
 generalize Z1 36 w=X at *
 refine (K.out X).mono ?_
 rintro e w1 ⟨rfl,hb1⟩
 have xr1:=isA_zero' (xr.keep hb1)
 obtain⟨⟨d0,d1,d2,d3⟩,e0,e1,e2,e3⟩:=fourV xr1
 have KL:=Lib.hid (load_el (isA_set (n:=a) xr1))
 have BR:=Lib.hid (set4_below (v0:=.int .u64 (wd a 0:Int)) (v1:=.int .u64 (wd a 1:Int)) (v2:=.int .u64 (wd a 2:Int)) (v3:=.int .u64 (wd a 3:Int)) (xB.trans (hb1.mono (by omega))) (b:=w.heap.size) (Nat.le_refl _))
 clear xr xr1 xB hb1
 go_wp2_with fail
 exact bodyPost_ret (results_arr Tryz.results34 (by rfl) KL.out) rfl ⟨rfl,BR.out⟩
def A1 (n:Nat) (t:TypeId) (w:World):World:=w.alloc (.cells #[.int .u64 (wd n 0:Int),.int .u64 (wd n 1:Int),.int .u64 (wd n 2:Int),.int .u64 (wd n 3:Int)] t)
def A2 (n:Nat) (t u:TypeId) (w:World):World:=(w.alloc (.cells #[.int .u64 (wd n 0:Int),.int .u64 (wd n 1:Int),.int .u64 (wd n 2:Int),.int .u64 (wd n 3:Int)] t)).alloc (.cells #[.int .u64 0,.int .u64 0,.int .u64 0,.int .u64 0] u)
theorem a2_at (n:Nat) (t u:TypeId) (w:World):IsA (A2 n t u w) w.heap.size n t∧IsA (A2 n t u w) (w.heap.size+1) 0 u∧(A2 n t u w).heap.size=w.heap.size+2∧Below w.heap.size w (A2 n t u w) :=
 ⟨isA_a1 w n t _,isA_zero (alloc_new1 w _ _),by unfold A2;simp,gr_alloc (gr_alloc (Below.refl _ _) _) _⟩
theorem pnum_any (n:Nat) (w:World):Calls Tryz.prog 95 #[numV n] w fun e w'=>e=.returned (numV n)∧Below w.heap.size w w':=by
 have KL:=Lib.hid (load_num (W:=A1 n 24 (A1 n 36 w)) (b:=w.heap.size+1) (n:=n) (alloc_new1 w _ _))
 simp only[numV_agg] at KL ⊢
 go_enter Tryz.func95,Tryz.ntmps95
 go_wp2_with fail
 exact bodyPost_ret (results_arr Tryz.results95 (by rfl) KL.out) rfl ⟨rfl,gr_alloc (gr_alloc (Below.refl _ _) _) _⟩
theorem podd_any (n:Nat) (w:World):Calls Tryz.prog 94 #[numV n] w fun e w'=>e=.returned (.bool (decide (n%2=1)))∧Below w.heap.size w w':=by
 have K:=Lib.hid (fun w=>bit_any n 0 w (by omega))
 have hB:bitN n 0=n%2:=by unfold bitN;rw[Nat.pow_zero,Nat.div_one]
 rw[hB] at K
 have hq:(((n%2:Nat):Int) == 1)=decide (n%2=1):=by
  have h2:=Nat.mod_lt n (show 0<2 by decide)
  have h3:n%2=0∨n%2=1:=by omega
  rcases h3 with h | h <;> rw[h] <;> rfl
 obtain⟨B,hb⟩:∃ B,n%2=B:=⟨_,rfl⟩
 rw[hb] at K hq ⊢
 clear hb hB
 simp only[numV_agg] at K ⊢
 go_enter Tryz.func94,Tryz.ntmps94
 go_wp2_with fail
 refine (K.out _).mono ?_
 rintro e w1 ⟨rfl,hb1⟩
 go_wp2_with fail
 go_ret
 exact⟨ret_bool rfl,(gr_alloc (Below.refl _ _) _).trans (hb1.mono (by rw[alloc_size1];omega))⟩
theorem mod_cmp_ge (n:Nat) (h:PN≤n):(0:Int)≤cmpI n PN:=by unfold cmpI;rw[if_neg (by omega)];split <;> omega
theorem mod_cmp_lt (n:Nat) (h:n<PN):¬ (0:Int)≤cmpI n PN:=by unfold cmpI;rw[if_pos h];omega
theorem IsA.below {w w':World} {b n:Nat} {t:TypeId} (r:IsA w b n t) (hb:Below w.heap.size w w'):IsA w' b n t:=r.keep hb
set_option maxHeartbeats 4000000 in
theorem pmod_any (n:Nat) (w:World) (hn:n<B64^4):Calls Tryz.prog 131 #[numV n] w fun e w'=>e=.returned (numV (n%PN))∧Below w.heap.size w w':=by
 obtain⟨xa,xr,xz,xB⟩:=a2_at n 24 36 w
 have K1:=Lib.hid p_any
 have HMIX:=Lib.hid (show Tryz.prog.follows .mixedOrders=true by kernel_rfl)
 obtain⟨p,hp⟩:∃ p,PN=p:=⟨_,rfl⟩
 have hpB:p<B64^4:=by rw[← hp];exact PN_B
 have hp0:0<p:=by rw[← hp];exact PN_pos
 have CG:=Lib.hid mod_cmp_ge
 have CL:=Lib.hid mod_cmp_lt
 rw[hp] at K1 CG CL
 rw[hp]
 clear hp
 simp only[numV_agg] at K1 ⊢
 have HP:=Lib.hid (And.intro hpB (And.intro hp0 hn))
 clear hpB hp0 hn
 go_enter Tryz.func131,Tryz.ntmps131
 go_wp2_with fail
 change Code.wp _ _ _ _ (A2 n 24 36 w)
 generalize A2 n 24 36 w=X at *
 go_loopg [] n (fun gk wr=>gk<B64^4∧gk%p=n%p∧IsA wr w.heap.size gk 24∧IsA wr (w.heap.size+1) 0 36∧Below w.heap.size w wr)
 case atStart=>exact⟨HP.out.2.2,rfl,xa,xr,xB⟩
 case round =>
  obtain⟨hg,hm,ya,yr,yB⟩:=hrel
  have K2:=Lib.hid (fun w=>cmp_any gk p w hg HP.out.1)
  obtain⟨C,hC⟩:∃ C,cmpI gk p=C:=⟨_,rfl⟩
  have cge:=CG.out gk
  have clt:=CL.out gk
  rw[hC] at K2 cge clt
  simp only[numV_agg] at K2
  obtain⟨⟨p0,p1,p2,p3⟩,_⟩:=fourV ya
  have hsz:=yB.size
  have hlA:=lt_blk ya
  have hlR:=lt_blk yr
  have HA:=Lib.hid ya
  have HR:=Lib.hid yr
  have HB:=Lib.hid yB
  have HM:=Lib.hid (And.intro hg hm)
  clear xa xr xz xB ya yr yB hC hg hm
  by_cases hlt:gk<p
  ·have c1:=clt hlt
   have HL:=Lib.hid hlt
   have kl:=load_el (isA_set (n:=gk) (isA_zero' HR.out))
   clear cge clt hlt kl
   have D0:=fun d os=>cell_regrown p0 d os
   have D1:=fun d os=>cell_regrown p1 d os
   have D2:=fun d os=>cell_regrown p2 d os
   have D3:=fun d os=>cell_regrown p3 d os
   clear p0 p1 p2 p3
   go_wp2_with fail
   refine wp_region_quiet_below HMIX.out (by kernel_rfl) ?_
   repeat (go_big_quiet_step (first
    | (go_at_call 75;exact Calls.regrown_of (K1.out _))
    | (go_at_call 74;exact Calls.regrown_of (K2.out _))))
   refine wpQuiet_nil ?_
   intro _ hw'
   obtain⟨⟨nq1,os1⟩,hw''⟩:=hw'
   subst hw''
   have xa:=HA.out.below (below_regrown wr nq1 os1)
   have xr:=isA_zero' (HR.out.below (below_regrown wr nq1 os1))
   have xB:=HB.out.trans ((below_regrown wr nq1 os1).mono hsz)
   clear D0 D1 D2 D3 HA HR HB K1 K2
   generalize Sort.grow (redrawn wr nq1) os1=U2 at xa xr xB ⊢
   obtain⟨⟨p0,p1,p2,p3⟩,_⟩:=fourV xa
   obtain⟨⟨d0,d1,d2,d3⟩,e0,e1,e2,e3⟩:=fourV xr
   have KL:=Lib.hid (load_el (isA_set (n:=gk) xr))
   have BR:=Lib.hid (set4_below (v0:=.int .u64 (wd gk 0:Int)) (v1:=.int .u64 (wd gk 1:Int)) (v2:=.int .u64 (wd gk 2:Int)) (v3:=.int .u64 (wd gk 3:Int)) xB (b:=w.heap.size+1) (by omega))
   clear xa xr xB
   go_wp2_with fail
   have hE:n%p=gk:=by
    rw[← HM.out.2,Nat.mod_eq_of_lt HL.out]
   exact bodyPost_ret (results_arr Tryz.results131 (by rfl) KL.out) rfl ⟨by rw[hE];rfl,BR.out⟩
  ·have c1:=cge (Nat.le_of_not_lt hlt)
   have HL:=Lib.hid (Nat.le_of_not_lt hlt)
   have hS:subN gk p=gk-p:=by unfold subN;rw[if_neg hlt]
   have K3:=Lib.hid (fun w=>sub_any gk p w HM.out.1 HP.out.1)
   rw[hS] at K3
   obtain⟨S,hSS⟩:∃ S,gk-p=S:=⟨_,rfl⟩
   obtain⟨B,hBB⟩:∃ B,subK gk p=B:=⟨_,rfl⟩
   rw[hSS,hBB] at K3
   have HS:=Lib.hid hSS
   simp only[numV_agg] at K3
   clear cge clt hlt hS hSS hBB
   have D0:=fun d os=>cell_regrown p0 d os
   have D1:=fun d os=>cell_regrown p1 d os
   have D2:=fun d os=>cell_regrown p2 d os
   have D3:=fun d os=>cell_regrown p3 d os
   clear p0 p1 p2 p3
   go_wp2_with fail
   refine wp_region_quiet_below HMIX.out (by kernel_rfl) ?_
   repeat (go_big_quiet_step (first
    | (go_at_call 75;exact Calls.regrown_of (K1.out _))
    | (go_at_call 74;exact Calls.regrown_of (K2.out _))))
   refine wpQuiet_nil ?_
   intro _ hw'
   obtain⟨⟨nq1,os1⟩,hw''⟩:=hw'
   subst hw''
   have XA:=Lib.hid (HA.out.below (below_regrown wr nq1 os1))
   have XR:=Lib.hid (HR.out.below (below_regrown wr nq1 os1))
   have XB:=Lib.hid (HB.out.trans ((below_regrown wr nq1 os1).mono hsz))
   clear D0 D1 D2 D3 HA HR HB K2
   generalize Sort.grow (redrawn wr nq1) os1=Y at XA XR XB ⊢
   obtain⟨⟨p0,p1,p2,p3⟩,g0,g1,g2,g3⟩:=fourV XA.out
   have hlY:=lt_blk XA.out
   have hlZ:=lt_blk XR.out
   go_wp2_with fail
   go_region_law (first
    | (go_simp;go_at_call 75;go_must (refine (K1.out _).mono ?_);rintro e w3 ⟨rfl,hb3⟩
       have r3:=(show IsA Y.drew _ _ _ from XA.out).keep hb3
       have x3:=(show IsA Y.drew _ _ _ from XR.out).keep hb3
       have B3:=XB.out.drew.trans (hb3.mono XB.out.size)
       obtain⟨⟨k0,k1,k2,k3⟩,f0,f1,f2,f3⟩:=fourV r3)
    | (go_simp;go_at_call 134;go_must (refine (K3.out _).mono ?_);rintro e w4 ⟨rfl,hb4⟩
       have r4:=r3.keep hb4
       have x4:=x3.keep hb4
       have B4:=B3.trans (hb4.mono B3.size)
       obtain⟨⟨m0,m1,m2,m3⟩,h0,h1,h2,h3⟩:=fourV r4))
   all_goals
    have RA:=Lib.hid (isA_set (n:=S) r4)
    have RR:=Lib.hid (x4.far (c:=w.heap.size) (v0:=.int .u64 (wd S 0:Int)) (v1:=.int .u64 (wd S 1:Int)) (v2:=.int .u64 (wd S 2:Int)) (v3:=.int .u64 (wd S 3:Int)) (by omega))
    have BR:=Lib.hid (set4_below (v0:=.int .u64 (wd S 0:Int)) (v1:=.int .u64 (wd S 1:Int)) (v2:=.int .u64 (wd S 2:Int)) (v3:=.int .u64 (wd S 3:Int)) B4 (b:=w.heap.size) (Nat.le_refl _))
    clear r3 r4 x3 x4 B3 B4
    go_wp2_with fail
    go_roundg S
    case rel =>
     have hS:=HS.out
     have h1:=HP.out
     have h2:=HM.out
     have h3:=HL.out
     refine⟨by omega,?_,RA.out,RR.out,BR.out⟩
     rw[← h2.2,← hS]
     exact (Nat.mod_eq_sub_mod h3).symm
    case measure =>
     have hS:=HS.out
     have h1:=HP.out
     have h3:=HL.out
     omega
def A3 (a b:Nat) (t:TypeId) (w:World):World:=((w.alloc (.cells #[.int .u64 (wd a 0:Int),.int .u64 (wd a 1:Int),.int .u64 (wd a 2:Int),.int .u64 (wd a 3:Int)] t)).alloc (.cells #[.int .u64 (wd b 0:Int),.int .u64 (wd b 1:Int),.int .u64 (wd b 2:Int),.int .u64 (wd b 3:Int)] t)).alloc (.cells #[.int .u64 0,.int .u64 0,.int .u64 0,.int .u64 0] 36)
theorem a3_at (a b:Nat) (t:TypeId) (w:World):IsA (A3 a b t w) w.heap.size a t∧IsA (A3 a b t w) (w.heap.size+1) b t∧IsA (A3 a b t w) (w.heap.size+1+1) 0 36∧(A3 a b t w).heap.size=w.heap.size+3∧Below w.heap.size w (A3 a b t w):=by
 unfold A3
 refine⟨(isA_a1 w a t _).alloc _,(alloc_keep (alloc_new1 w _ _) _:_),isA_zero (alloc_new2 w _ _ _),by simp,gr_alloc (gr_alloc (gr_alloc (Below.refl _ _) _) _) _⟩
theorem B4_gt:PN+PN<B64^4:=by decide +kernel
theorem sub_lt_mod (a b:Nat) (ha:a<PN) (hb:b<PN) (h:a<b):addN (subN a b) PN=(a+PN-b)%PN:=by
 have:=B4_gt
 unfold addN subN
 rw[if_pos h,show a+B64^4-b+PN=a+PN-b+B64^4 by omega,Nat.add_mod_right,Nat.mod_eq_of_lt (by omega:a+PN-b<B64^4),Nat.mod_eq_of_lt (by omega:a+PN-b<PN)]
theorem sub_ge_mod (a b:Nat) (ha:a<PN) (h:¬ a<b):subN a b=(a+PN-b)%PN:=by
 unfold subN
 rw[if_neg h,show a+PN-b=a-b+PN by omega,Nat.add_mod_right,Nat.mod_eq_of_lt (by omega:a-b<PN)]
theorem of_PN {a:Nat} (h:a<PN):a<B64^4:=Nat.lt_trans h PN_B
set_option maxHeartbeats 4000000 in
theorem psub_any (a b:Nat) (w:World) (ha:a<PN) (hb:b<PN):Calls Tryz.prog 80 #[numV a,numV b] w fun e w'=>e=.returned (numV ((a+PN-b)%PN))∧Below w.heap.size w w':=by
 have K1:=Lib.hid (fun w=>sub_any a b w (of_PN ha) (of_PN hb))
 have K2:=Lib.hid p_any
 have K3:=Lib.hid (fun w=>add_any (subN a b) PN w (sub_fits a b (of_PN ha) (of_PN hb)) PN_B)
 obtain⟨xa,xb,xr,xz,xB⟩:=a3_at a b 36 w
 by_cases h:a<b
 ·have hk:subK a b=1:=by unfold subK;rw[if_pos h]
  rw[sub_lt_mod a b ha hb h] at K3
  rw[hk] at K1
  obtain⟨S,hS⟩:∃ S,subN a b=S:=⟨_,rfl⟩
  obtain⟨R,hR⟩:∃ R,(a+PN-b)%PN=R:=⟨_,rfl⟩
  obtain⟨C,hC⟩:∃ C,addK S PN=C:=⟨_,rfl⟩
  rw[hS] at K1
  rw[hS,hC,hR] at K3
  rw[hR]
  obtain⟨p,hp⟩:∃ p,PN=p:=⟨_,rfl⟩
  rw[hp] at K2 K3
  have k1:((1:Nat):Int)=1:=rfl
  rw[k1] at K1
  simp only[numV_agg] at K1 K2 K3 ⊢
  clear ha hb h hk hS hR hC hp k1
  go_enter Tryz.func80,Tryz.ntmps80
  go_wp2_with fail
  change Calls _ _ _ (A3 a b 36 w) _
  generalize A3 a b 36 w=X at *
  refine (K1.out X).mono ?_
  rintro e w1 ⟨rfl,hb1⟩
  have hz1:w.heap.size+3≤w1.heap.size:=by have:=hb1.size;omega
  have XA:Hid (IsA (w1.alloc (.cells #[.int .u64 (wd S 0:Int),.int .u64 (wd S 1:Int),.int .u64 (wd S 2:Int),.int .u64 (wd S 3:Int)] 24)) w1.heap.size S 24):=(alloc_new w1 _ :)
  have XR:=Lib.hid ((xr.keep hb1).alloc (.cells #[.int .u64 (wd S 0:Int),.int .u64 (wd S 1:Int),.int .u64 (wd S 2:Int),.int .u64 (wd S 3:Int)] 24))
  have XB:=Lib.hid (gr_allocB (xB.trans (hb1.mono (by omega))) (by omega) (.cells #[.int .u64 (wd S 0:Int),.int .u64 (wd S 1:Int),.int .u64 (wd S 2:Int),.int .u64 (wd S 3:Int)] 24))
  clear xa xb xr xz xB hb1 K1
  go_wp2_with fail
  generalize w1.alloc (.cells #[.int .u64 (wd S 0:Int),.int .u64 (wd S 1:Int),.int .u64 (wd S 2:Int),.int .u64 (wd S 3:Int)] 24)=Y at XA XR XB ⊢
  obtain⟨⟨p0,p1,p2,p3⟩,g0,g1,g2,g3⟩:=fourV XA.out
  go_region_law (first
      | (go_simp;go_at_call 75;go_must (refine (K2.out _).mono ?_);rintro e w3 ⟨rfl,hb3⟩
         have r3:=(show IsA Y.drew _ _ _ from XA.out).keep hb3
         have x3:=(show IsA Y.drew _ _ _ from XR.out).keep hb3
         have B3:=XB.out.drew.trans (hb3.mono XB.out.size)
         obtain⟨⟨k0,k1,k2,k3⟩,f0,f1,f2,f3⟩:=fourV r3)
      | (go_simp;go_at_call 102;go_must (refine (K3.out _).mono ?_);rintro e w4 ⟨rfl,hb4⟩
         have r4:=r3.keep hb4
         have x4:=x3.keep hb4
         have B4:=B3.trans (hb4.mono B3.size)
         obtain⟨⟨m0,m1,m2,m3⟩,h0,h1,h2,h3⟩:=fourV r4))
  all_goals
   have ra:=isA_set (n:=R) r4
   have rr:=isA_zero' (x4.far (c:=w1.heap.size) (v0:=.int .u64 (wd R 0:Int)) (v1:=.int .u64 (wd R 1:Int)) (v2:=.int .u64 (wd R 2:Int)) (v3:=.int .u64 (wd R 3:Int)) (by omega))
   have br:=set4_below (v0:=.int .u64 (wd R 0:Int)) (v1:=.int .u64 (wd R 1:Int)) (v2:=.int .u64 (wd R 2:Int)) (v3:=.int .u64 (wd R 3:Int)) B4 (b:=w1.heap.size) (by omega)
   clear r3 r4 x3 x4 B3 B4 hb3 hb4 XA XR XB
   generalize (((w4.setCell ⟨w1.heap.size,0,none⟩ (.int .u64 (wd R 0:Int))).setCell ⟨w1.heap.size,1,none⟩ (.int .u64 (wd R 1:Int))).setCell ⟨w1.heap.size,2,none⟩ (.int .u64 (wd R 2:Int))).setCell ⟨w1.heap.size,3,none⟩ (.int .u64 (wd R 3:Int))=Z at *
   obtain⟨⟨q0,q1,q2,q3⟩,_⟩:=fourV ra
   obtain⟨⟨d0,d1,d2,d3⟩,e0,e1,e2,e3⟩:=fourV rr
   have KL:=Lib.hid (load_el (isA_set (n:=R) rr))
   have BR:=Lib.hid (set4_below (v0:=.int .u64 (wd R 0:Int)) (v1:=.int .u64 (wd R 1:Int)) (v2:=.int .u64 (wd R 2:Int)) (v3:=.int .u64 (wd R 3:Int)) br (b:=w.heap.size+1+1) (by omega))
   clear ra rr br
   go_wp2_with fail
   exact bodyPost_ret (results_arr Tryz.results80 (by rfl) KL.out) rfl ⟨rfl,BR.out⟩
 ·have hk:subK a b=0:=by unfold subK;rw[if_neg h]
  rw[sub_ge_mod a b ha h] at K1
  rw[hk] at K1
  obtain⟨R,hR⟩:∃ R,(a+PN-b)%PN=R:=⟨_,rfl⟩
  rw[hR] at K1 ⊢
  have k1:((0:Nat):Int)=0:=rfl
  rw[k1] at K1
  simp only[numV_agg] at K1 ⊢
  clear ha hb h hk hR k1 K2 K3
  go_enter Tryz.func80,Tryz.ntmps80
  go_wp2_with fail
  change Calls _ _ _ (A3 a b 36 w) _
  generalize A3 a b 36 w=X at *
  refine (K1.out X).mono ?_
  rintro e w1 ⟨rfl,hb1⟩
  have xr1:=isA_zero' ((xr.keep hb1).alloc (.cells #[.int .u64 (wd R 0:Int),.int .u64 (wd R 1:Int),.int .u64 (wd R 2:Int),.int .u64 (wd R 3:Int)] 24))
  obtain⟨⟨d0,d1,d2,d3⟩,e0,e1,e2,e3⟩:=fourV xr1
  have hz1:w.heap.size+3≤w1.heap.size:=by have:=hb1.size;omega
  have KL:=Lib.hid (load_el (isA_set (n:=R) xr1))
  have BR:=Lib.hid (set4_below (v0:=.int .u64 (wd R 0:Int)) (v1:=.int .u64 (wd R 1:Int)) (v2:=.int .u64 (wd R 2:Int)) (v3:=.int .u64 (wd R 3:Int)) (gr_allocB (xB.trans (hb1.mono (by omega))) (by omega) (.cells #[.int .u64 (wd R 0:Int),.int .u64 (wd R 1:Int),.int .u64 (wd R 2:Int),.int .u64 (wd R 3:Int)] 24)) (b:=w.heap.size+1+1) (by omega))
  clear xa xb xr xr1 xB hb1
  go_wp2_with fail
  exact bodyPost_ret (results_arr Tryz.results80 (by rfl) KL.out) rfl ⟨rfl,BR.out⟩
theorem pneg_any (a:Nat) (w:World) (ha:a<PN):Calls Tryz.prog 83 #[numV a] w fun e w'=>e=.returned (numV ((0+PN-a)%PN))∧Below w.heap.size w w':=by
 have K:=Lib.hid (fun w=>psub_any 0 a w PN_pos ha)
 obtain⟨R,hR⟩:∃ R,(0+PN-a)%PN=R:=⟨_,rfl⟩
 rw[hR,num_zero] at K
 rw[hR]
 obtain⟨xa,xr,xz,xB⟩:=a2_at a 36 36 w
 simp only[numV_agg] at K ⊢
 obtain⟨⟨p0,p1,p2,p3⟩,_⟩:=fourV xa
 clear hR
 go_enter Tryz.func83,Tryz.ntmps83
 go_wp2_with fail
 change Calls _ _ _ (A2 a 36 36 w) _
 generalize A2 a 36 36 w=X at *
 refine (K.out X).mono ?_
 rintro e w1 ⟨rfl,hb1⟩
 have xr1:=isA_zero' (xr.keep hb1)
 obtain⟨⟨d0,d1,d2,d3⟩,e0,e1,e2,e3⟩:=fourV xr1
 have KL:=Lib.hid (load_el (isA_set (n:=R) xr1))
 have BR:=Lib.hid (set4_below (v0:=.int .u64 (wd R 0:Int)) (v1:=.int .u64 (wd R 1:Int)) (v2:=.int .u64 (wd R 2:Int)) (v3:=.int .u64 (wd R 3:Int)) (xB.trans (hb1.mono (by omega))) (b:=w.heap.size+1) (by omega))
 clear xa xr xr1 xB hb1
 go_wp2_with fail
 exact bodyPost_ret (results_arr Tryz.results83 (by rfl) KL.out) rfl ⟨rfl,BR.out⟩
theorem B4_two:B64^4=2*PN+38:=by decide +kernel
theorem B4_is:B64^4=115792089237316195423570985008687907853269984665640564039457584007913129639936:=by decide +kernel
theorem fold_mod (k n:Nat):(k*B64^4+n)%PN=(38*k+n)%PN:=by
 rw[B4_two,show k*(2*PN+38)+n=38*k+n+PN*(2*k) by rw[Nat.mul_add,Nat.mul_comm k 38,← Nat.mul_assoc,Nat.mul_comm (k*2),Nat.mul_comm k 2];omega,Nat.add_mul_mod_self_left]
theorem wd_small (a:Nat) (h:a<18446744073709551616):wd a 0=a:=by
 unfold wd
 rw[Nat.pow_zero,Nat.div_one]
 exact Nat.mod_eq_of_lt h
theorem rise_lt (h:Nat) (hh:h<B64^4):h*38/B64^4<38:=by
 rw[Nat.div_lt_iff_lt_mul (by decide)]
 rw[Nat.mul_comm]
 exact Nat.mul_lt_mul_of_pos_left hh (by decide)
theorem over_le (a b:Nat) (ha:a<B64^4) (hb:b<B64^4):addK a b≤1:=by
 unfold addK
 have:(a+b)/B64^4<2:=by rw[Nat.div_lt_iff_lt_mul (by decide)];omega
 omega
theorem rest_start (lo hi:Nat):(((hi*38/B64^4+addK lo (hi*38%B64^4))*B64^4)+addN lo (hi*38%B64^4))%PN=(hi*B64^4+lo)%PN:=by
 have e:((hi*38/B64^4+addK lo (hi*38%B64^4))*B64^4)+addN lo (hi*38%B64^4)=38*hi+lo:=by
  unfold addK addN
  have h1:=Nat.div_add_mod (hi*38) (B64^4)
  have h2:=Nat.div_add_mod (lo+hi*38%B64^4) (B64^4)
  rw[Nat.add_mul,Nat.mul_comm (hi*38/B64^4),Nat.mul_comm ((lo+hi*38%B64^4)/B64^4)]
  omega
 rw[e,fold_mod]
theorem rest_round (n k:Nat):(addK n (38*k)*B64^4+addN n (38*k))=n+38*k:=by
 unfold addK addN
 rw[Nat.mul_comm,Nat.div_add_mod]
/-- Four cells of a block, as they are read. -/
abbrev C4 (w:World) (b n:Nat):Prop:=w.cell? ⟨b,0,none⟩=some (.int .u64 (wd n 0:Int))∧w.cell? ⟨b,1,none⟩=some (.int .u64 (wd n 1:Int))∧w.cell? ⟨b,2,none⟩=some (.int .u64 (wd n 2:Int))∧w.cell? ⟨b,3,none⟩=some (.int .u64 (wd n 3:Int))
theorem C4.map {w w':World} {b n:Nat} (h:C4 w b n) (f:∀ {j:Nat} {v:Value},w.cell? ⟨b,j,none⟩=some v→w'.cell? ⟨b,j,none⟩=some v):C4 w' b n:=⟨f h.1,f h.2.1,f h.2.2.1,f h.2.2.2⟩
theorem cell_in {w:World} {b j:Nat} {v:Value} (h:w.cell? ⟨b,j,none⟩=some v):b<w.heap.size:=by
 rcases Nat.lt_or_ge b w.heap.size with hl | hl
 ·exact hl
 ·rw[World.cell?,Array.getElem?_eq_none hl] at h
  cases h
theorem C4.call {w w':World} {b n:Nat} (h:C4 w b n) (hb:Below w.heap.size w w'):C4 w' b n:=h.map fun h=>(hb.cell (cell_in h)).trans h
theorem C4.calls {w w':World} {b n N:Nat} (hb:Below N w w') (h:C4 w b n) (hN:w.heap.size≤N):C4 w' b n:=h.map fun h=>(hb.cell (Nat.lt_of_lt_of_le (cell_in h) hN)).trans h
theorem C4.drew {w:World} {b n:Nat} (h:C4 w b n):C4 w.drew b n:=h
theorem C4.alloc {w:World} {b n:Nat} (h:C4 w b n) (o:Obj):C4 (w.alloc o) b n:=h.call ((Below.refl w.heap.size w).alloc (Nat.le_refl _) o)
theorem C4.far {w:World} {b c n:Nat} {v0 v1 v2 v3:Value} (h:C4 w b n) (hne:b≠c):C4 ((((w.setCell ⟨c,0,none⟩ v0).setCell ⟨c,1,none⟩ v1).setCell ⟨c,2,none⟩ v2).setCell ⟨c,3,none⟩ v3) b n:=h.map fun h=>by
 rw[← h]
 simp only[World.cell?,set4_far hne]
theorem drew_keep {w:World} {b:Nat} {o:Obj} (h:w.heap[b]?=some o):w.drew.heap[b]?=some o:=h
theorem b_set4 {w W:World} {b:Nat} {v0 v1 v2 v3:Value} (h:Below w.heap.size w W) (hb:w.heap.size≤b):Below w.heap.size w ((((W.setCell ⟨b,0,none⟩ v0).setCell ⟨b,1,none⟩ v1).setCell ⟨b,2,none⟩ v2).setCell ⟨b,3,none⟩ v3):=set4_below h hb
theorem isA_calls {w w':World} {b n N:Nat} {t:TypeId} (hb:Below N w w') (h:IsA w b n t) (hN:w.heap.size≤N):IsA w' b n t:=(hb.block b (Nat.lt_of_lt_of_le (lt_blk h) hN)).trans h
theorem isA_new (w:World) (n:Nat) (t:TypeId):IsA (w.alloc (.cells #[.int .u64 (wd n 0:Int),.int .u64 (wd n 1:Int),.int .u64 (wd n 2:Int),.int .u64 (wd n 3:Int)] t)) w.heap.size n t:=alloc_new w _
theorem far_keep {w:World} {b c:Nat} {o:Obj} {v0 v1 v2 v3:Value} (h:w.heap[c]?=some o) (hne:c≠b):((((w.setCell ⟨b,0,none⟩ v0).setCell ⟨b,1,none⟩ v1).setCell ⟨b,2,none⟩ v2).setCell ⟨b,3,none⟩ v3).heap[c]?=some o:=(set4_far hne).trans h
theorem b_calls {w W W':World} {N:Nat} (hb:Below N W W') (h:Below w.heap.size w W) (hN:w.heap.size≤N):Below w.heap.size w W':=h.trans (hb.mono hN)
theorem b_alloc {w W:World} (h:Below w.heap.size w W) (o:Obj):Below w.heap.size w (W.alloc o):=gr_alloc h o
theorem b_drew {w W:World} (h:Below w.heap.size w W):Below w.heap.size w W.drew:=h.drew
end Go.Proofs.YtnaldciakclccaaGreat
