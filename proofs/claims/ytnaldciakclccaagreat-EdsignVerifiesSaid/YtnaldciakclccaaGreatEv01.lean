/- Lemmas of this proof. -/
import Derived.WalkKit
import Derived.WalkSpells
import Derived.WalkLawsBesides
import Derived.Lib.Hide
import Derived.Handy
import Derived.Outline
import Derived.Deep.RegionLaw
import Derived.Deep.AppendLies
import Derived.Laws.IdiomStrings
import Derived.Deep.DeepFit
import Derived.BigQuiet
import Derived.Deep.QuietTactic
import Derived.Deep.RegionHeld3
import Derived.ProofKit
import Derived.Laws.Rows
import Derived.Laws.Bits64b
import Derived.Lib.QuietBelow
import Derived.Test.YtnaldciakclccaaGreatRows
namespace Go.Proofs.YtnaldciakclccaaGreat
theorem exza {α:Type} (a:α):∃ x,x=a:=⟨_,rfl⟩
theorem exzb {α:Type} (a:α):∃ x,a=x:=⟨_,rfl⟩
theorem Lh {p:Prop} (h:p):Go.RowKit.Hid p:=Go.Lib.hid h
set_option maxRecDepth 20000
set_option maxHeartbeats 8000000
set_option linter.unusedSimpArgs false
set_option linter.unusedVariables false
theorem BE {k:IntKind} {a b:Int} (h:a=b):Ending.returned (.int k a)=.returned (.int k b):=by rw[h]
theorem EM {a b:Bool} (h:a=b):Ending.returned (.bool a)=.returned (.bool b):=by rw[h]
theorem cx {a b:ByteArray} (h:a=b):Ending.returned (.string a)=.returned (.string b):=by rw[h]
theorem TA {k:IntKind} {a b:ByteArray} {x y:Int} (h:a=b) (g:x=y):Ending.returned (.tuple #[.string a,.int k x])=.returned (.tuple #[.string b,.int k y]):=by rw[h,g]
open Go.RowKit
theorem GO {w0 w1 w2:World} (h1:Below w0.heap.size w0 w1) (h2:Below w1.heap.size w1 w2):Below w0.heap.size w0 w2:=h1.trans (h2.mono h1.size)
theorem Al {w0 w1:World} (h1:Below w0.heap.size w0 w1) (o:Obj):Below w0.heap.size w0 (w1.alloc o):=h1.alloc h1.size o
theorem cC (zs:List Int) (i:Nat) (h:i<zs.length):zs.getD i 0=zs[i]:=by simp[h]
theorem BH {w w1 w2:World} {row:Option Nat} (h:w.grownBy w1 row) (k:w1.grownBy w2 row):w.grownBy w2 row :=
 ⟨k.os.trans h.os,k.tape.trans h.tape,k.output.trans h.output,Nat.le_trans h.size k.size,fun i hi hr=>(k.block i (Nat.lt_of_lt_of_le hi h.size) hr).trans (h.block i hi hr)⟩
theorem CQ (w:World) (row:Option Nat):w.grownBy w.drew row:=⟨rfl,rfl,rfl,Nat.le_refl _,fun _ _ _=>rfl⟩
theorem Dn {P:Program} {w:World} {ops:Array Oper} {o:Oper} {a:Act} {K:Act→World→Prop} {Q:Exit→Act→World→Prop} {E:Prop} (hgd:o.guard=none) (s x:Operand) (t:TypeId)
    (ho:o.op=.call { callee:=.builtin .append,args:=#[s,x],argTypes:=#[t,t] })
    (base:Nat) (e:TypeId) (i:TypeInfo) (z:Value) (size bytes:Nat) (ht:P.underlying t=some (.slice e)) (hi:P.info? e=some i) (hz:i.zero=some z)
    (hsize:i.size=size) (hby:i.bytes=bytes) (hzs:z.cells.size=size) (hsz:0<size)
    (v:Value) (n:Nat) (xs:List Value) (hs:a.eval s=v) (hown:w.ownsRow base e size v n xs)
    (ad:Addr) (m c:Nat) (news:List Value) (hx:a.eval x=.slice (some ad) m c) (hl:news.length=m*size) (hnews:∀ j u,news[j]?=some u→w.cell? (ad.add j)=some u) (h1:∀ u ∈ news,u.oneCell'=true)
    (h63:n+m≤maxLen) (hbytes:(n+m)*bytes≤140737488355328) (hbase:base≤w.heap.size)
    (h:∀ v' w',w'.ownsRow base e size v' (n+m) (xs++news)→w.grownBy w' v.ownBlock→K (a.put o.dst v') w') :
    if Region.wanted o (yielded ops a.tmps)=true then Oper.wp P o a w K Q else E:=by
 have hw:Region.wanted o (yielded ops a.tmps)=true:=by simp[Region.wanted,hgd]
 rw[if_pos hw]
 exact wp_append_own w s x t ho base e i z size bytes ht hi hz hsize hby hzs hsz v n xs hs hown ad m c news hx hl hnews h1 h63 hbytes hbase fun v' w' h2 h3 _=>h v' w' h2 h3
theorem BK (w:World) (cs:Array Value) (t:TypeId):∀ j u,cs.toList[j]?=some u→(w.alloc (.cells cs t)).cell? ((⟨w.heap.size,0,none⟩:Addr).add j)=some u:=fun j u hu=>by
 have hadd:(⟨w.heap.size,0,none⟩:Addr).add j=⟨w.heap.size,j,none⟩:=by unfold Addr.add;split <;> simp_all
 rw[hadd]
 simpa [go_sem] using hu
def bc (b:UInt8):Value:=.int .u8 (b.toNat:Int)
def ofI (z:Int):UInt8:=UInt8.ofNat z.toNat
theorem NO (z:Int) (h0:0≤z) (h1:z<256):((ofI z).toNat:Int)=z:=by
 unfold ofI
 rw[UInt8.toNat_ofNat']
 omega
theorem LY (z:Int) (h0:0≤z) (h1:z<256):bc (ofI z)=.int .u8 z:=by unfold bc;rw[NO z h0 h1]
theorem DH {P:Program} {w:World} {base:Nat} {t ty e:TypeId} {v:Value} {n:Nat} {L:List UInt8} (hs:P.underlying t=some (.slice e)) (he:P.underlying e=some (.int .u8)) (hd:P.underlying ty=some .string)
    (hown:w.ownsRow base e 1 v n (L.map bc)):(convert t ty v).run P w=.ok (.string ⟨L.toArray⟩) w:=by
 obtain⟨hl,hv | ⟨g,cap,cur,rfl,_,hg,hn,_,hcur,htake⟩⟩:=hown
 ·obtain⟨rfl,rfl⟩:=hv
  have hL:L=[]:=by simpa using hl
  subst hL
  rw[run_convert_bytes_string w t ty e none 0 0 hs he hd]
  rfl
 ·have hL:L.length=n:=by simpa using hl
  subst hL
  refine run_convert_bytes_back w t ty e ⟨g,0,none⟩ cap L hs he hd fun j hj=>?_
  have hadd:(⟨g,0,none⟩:Addr).add j=⟨g,j,none⟩:=by unfold Addr.add;split <;> simp_all
  have h1:(cur.toList.take (L.length*1))[j]?=some (bc L[j]):=by rw[htake];simp[hj]
  rw[List.getElem?_take,if_pos (by omega)] at h1
  rw[hadd]
  simpa [World.cell?,hg,bc] using h1
theorem Kp (w:World) (s:ByteArray) (cap:Nat) (e:TypeId) (m:Nat × Nat) (i:Nat) (hi:i<s.size):(w.alloc (.cells (bytesRow s cap) e m)).cell? ⟨w.heap.size,i,none⟩=some (bc (s.data.toList.getD i 0)):=by
 have hi':i<s.data.size:=hi
 rw[World.cell?_alloc_mark,bytesRow_at s cap i hi']
 simp only[bc,List.getD_eq_getElem?_getD,Array.getElem?_toList,Array.getElem?_eq_getElem hi',Option.getD_some]
def B64:Nat:=18446744073709551616
def wd (n i:Nat):Nat:=n/B64^i%B64
theorem B9:0<B64:=by decide
theorem Cb (n i:Nat):wd n i<18446744073709551616:=Nat.mod_lt _ B9
def An (n:Nat):List Value:=[.int .u64 (wd n 0:Int),.int .u64 (wd n 1:Int),.int .u64 (wd n 2:Int),.int .u64 (wd n 3:Int)]
def Aa (n:Nat):Value:=.agg #[.int .u64 (wd n 0:Int),.int .u64 (wd n 1:Int),.int .u64 (wd n 2:Int),.int .u64 (wd n 3:Int)]
theorem Ai (n d:Nat) (h:d<4):(An n)[d]?=some (.int .u64 (wd n d:Int)):=by
 match d,h with
 | 0,_=>rfl | 1,_=>rfl | 2,_=>rfl | 3,_=>rfl
theorem EL (n i:Nat):n/B64^i=n/B64^(i+1)*B64+wd n i:=by
 unfold wd
 rw[Nat.pow_succ,← Nat.div_div_eq_div_mul]
 have:=Nat.div_add_mod (n/B64^i) B64
 rw[Nat.mul_comm] at this
 exact this.symm
theorem JE (a b:Nat) (ha:a<B64^4) (hb:b<B64^4):∀ k c,c+k=4→(∀ j,c≤j→j<4→wd a j=wd b j)→a/B64^c=b/B64^c
 | 0,c,hc,_=>by
   obtain rfl:c=4:=by omega
   rw[Nat.div_eq_of_lt ha,Nat.div_eq_of_lt hb]
 | k+1,c,hc,h=>by
   rw[EL a c,EL b c,JE a b ha hb k (c+1) (by omega) (fun j h1 h2=>h j (by omega) h2),h c (by omega) (by omega)]
theorem Uq (a b c:Nat) (h:a/B64^(c+1)=b/B64^(c+1)) (hw:wd a c<wd b c):a<b:=by
 apply Nat.lt_of_not_le
 intro hle
 have h1:b/B64^c≤a/B64^c:=Nat.div_le_div_right hle
 rw[EL a c,EL b c,h] at h1
 omega
def Eg (a b:Nat):Int:=if a<b then -1 else if b<a then 1 else 0
theorem Rt (x y:Nat) (w:World) :
    Calls Tryz.prog 129 #[.int .u64 (x:Int),.int .u64 (y:Int)] w fun e w'=>e=.returned (.int .i64 (Eg x y))∧w'=w:=by
 have nan:∀ (z:Nat) (w:World),Calls Tryz.prog 172 #[.int .u64 (z:Int)] w fun e w'=>e=.returned (.bool false)∧w=w':=fun z w=>by
  go_enter Tryz.func172,Tryz.ntmps172
  go_wp2_with fail
  go_ret
  exact⟨rfl,rfl⟩
 rcases Nat.lt_trichotomy x y with h | h | h
 ·have HE:=Lh (show Eg x y = -1 from if_pos h)
  have p1:(x:Int)<(y:Int):=by omega
  go_enter Tryz.func129,Tryz.ntmps129
  go_wp2_with (go_at_call 172;refine (nan _ _).mono ?_;rintro e w' ⟨rfl,rfl⟩)
  go_ret
  exact⟨BE HE.out.symm,rfl⟩
 ·subst h
  have HE:=Lh (show Eg x x=0 by simp[Eg])
  have p1:¬ (x:Int)<(x:Int):=by omega
  go_enter Tryz.func129,Tryz.ntmps129
  go_wp2_with (go_at_call 172;refine (nan _ _).mono ?_;rintro e w' ⟨rfl,rfl⟩)
  go_ret
  exact⟨BE HE.out.symm,rfl⟩
 ·have HE:=Lh (show Eg x y=1 by rw[Eg,if_neg (by omega),if_pos h])
  have p1:¬ (x:Int)<(y:Int):=by omega
  have p2:(y:Int)<(x:Int):=by omega
  go_enter Tryz.func129,Tryz.ntmps129
  go_wp2_with (go_at_call 172;refine (nan _ _).mono ?_;rintro e w' ⟨rfl,rfl⟩)
  go_ret
  exact⟨BE HE.out.symm,rfl⟩
theorem Ae (w:World) (o:Obj):(w.alloc o).heap.size=w.heap.size+1:=by simp
theorem AQ (w:World) (o:Obj) (b:Nat) (h:b<w.heap.size):(w.alloc o).heap[b]?=w.heap[b]?:=by
 show (w.heap.push _)[b]?=_
 rw[Array.getElem?_push_lt h,Array.getElem?_eq_getElem h]
theorem Aj (w:World) (o:Obj):(w.alloc o).heap[w.heap.size]?=some o:=by
 show (w.heap.push _)[w.heap.size]?=_
 simp
theorem Af {w:World} {b i:Nat} {t:TypeId} {L:List Value} {v:Value} (h:w.heap[b]?=some (.cells L.toArray t (0,0))) (hi:L[i]?=some v):w.cell? ⟨b,i,none⟩=some v∧w.frozen? ⟨b,i,none⟩=false :=
 ⟨by simp[World.cell?,h,hi],by simp[World.frozen?,h]⟩
def kI (c:Nat):Int:=(c:Int)-1
theorem AV {B:Nat} {a w:World} (h:Below B a w) (n:Nat):Below B a (w.drewN n):=h.trans ⟨rfl,rfl,rfl,Nat.le_refl _,fun _ _=>rfl⟩
theorem Jk (a b:Nat) (w:World) (ha:a<B64^4) (hb:b<B64^4) :
    Calls Tryz.prog 74 #[Aa a,Aa b] w fun e w'=>e=.returned (.int .i64 (Eg a b))∧Below w.heap.size w w':=by
 unfold Aa
 have hX0:((w.alloc (.cells (An a).toArray 24)).alloc (.cells (An b).toArray 24)).heap[w.heap.size]?=some (.cells (An a).toArray 24 (0,0)):=by
  rw[AQ _ _ _ (by rw[Ae];omega),Aj]
 have hX1:((w.alloc (.cells (An a).toArray 24)).alloc (.cells (An b).toArray 24)).heap[w.heap.size+1]?=some (.cells (An b).toArray 24 (0,0)):=by
  have:=Aj (w.alloc (.cells (An a).toArray 24)) (.cells (An b).toArray 24)
  rw[Ae] at this
  exact this
 have hXb:Below w.heap.size w ((w.alloc (.cells (An a).toArray 24)).alloc (.cells (An b).toArray 24)):=Al (Al (Below.refl _ _) _) _
 go_enter Tryz.func74,Tryz.ntmps74
 go_wp2_with fail
 change Code.wp _ _ _ _ ((w.alloc (.cells (An a).toArray 24)).alloc (.cells (An b).toArray 24))
 generalize (w.alloc (.cells (An a).toArray 24)).alloc (.cells (An b).toArray 24)=X at *
 go_loopw [5] (fun i wr=>∃ c:Nat,c≤4∧i=.int .i64 (kI c)∧(∀ j,c≤j→j<4→wd a j=wd b j)∧∃ nq,X.drewN nq=wr) (fun i _=>(intOf i+1).toNat)
 case atStart=>exact⟨4,by omega,rfl,fun j h1 h2=>absurd h1 (by omega),0,rfl⟩
 case round =>
  obtain⟨c,hc,rfl,hsame,nq,rfl⟩:=hrel
  match c,hc with
  | 0,_ =>
    have HE:=Lh (show Eg a b=0 by
     have h1:=JE a b ha hb 4 0 rfl hsame
     rw[Nat.pow_zero,Nat.div_one,Nat.div_one] at h1
     rw[h1];simp[Eg])
    rw[show kI 0 = -1 from rfl]
    clear hX0 hX1 hsame
    go_wp2_with fail
    go_ret
    exact⟨BE HE.out.symm,AV hXb nq⟩
  | d+1,hc =>
    rw[show kI (d+1)=(d:Int) by unfold kI;omega]
    have d3:(d:Int)<4:=by omega
    have d4:¬ (4:Int)≤(d:Int):=by omega
    have c0:(X.drewN nq).cell? ⟨w.heap.size,d,none⟩=some (.int .u64 (wd a d:Int)):=(Af hX0 (Ai a d (by omega))).1
    have c1:(X.drewN nq).cell? ⟨w.heap.size+1,d,none⟩=some (.int .u64 (wd b d:Int)):=(Af hX1 (Ai b d (by omega))).1
    have hab:=JE a b ha hb (3-d) (d+1) (by omega) hsame
    by_cases he:wd a d=wd b d
    ·have hs2:∀ j,d≤j→j<4→wd a j=wd b j:=fun j h1 h2=>by
       rcases Nat.eq_or_lt_of_le h1 with h | h
       ·rw[← h];exact he
       ·exact hsame j (by omega) h2
     have HS:=Lh hs2
     rw[he] at c0
     clear hX0 hX1 hsame hs2 hab he
     generalize wd b d=x at c0 c1
     obtain⟨Y,hY⟩:=exzb (X.drewN nq)
     have HY:=Lh hY
     rw[hY] at c0 c1 ⊢
     clear hY
     go_wp2_with fail
     go_quiet (fail)
     go_wp2_with fail
     go_roundw
     case rel=>exact⟨d,by omega,rfl,HS.out,_,by rw[← HY.out,World.drewN_drewN]⟩
     case measure=>simp[intOf]
    ·have HE:=Lh (show Eg a b=Eg (wd a d) (wd b d) by
       rcases Nat.lt_or_gt_of_ne he with h | h
       ·have:=Uq a b d hab h
        rw[Eg,Eg,if_pos this,if_pos h]
       ·have:=Uq b a d hab.symm h
        rw[Eg,Eg,if_neg (by omega),if_pos this,if_neg (by omega),if_pos h])
     have q1:¬ ((wd a d:Int)=(wd b d:Int)):=by omega
     have q2:decide ((wd a d:Int)=(wd b d:Int))=false:=by simpa using q1
     have q3:((wd a d:Int) == (wd b d:Int))=false:=by simpa using q1
     clear hX0 hX1 hsame hab he
     generalize wd a d=x at *
     generalize wd b d=y at *
     obtain⟨Y,hY⟩:=exzb (X.drewN nq)
     have hYb:Below w.heap.size w Y:=by rw[← hY];exact AV hXb nq
     rw[hY] at c0 c1 ⊢
     clear hY hXb
     go_wp2_with fail
     go_quiet (fail)
     go_wp2_with fail
     have e0:(Y.drewN nq).cell? ⟨w.heap.size,d,none⟩=some (.int .u64 (x:Int)):=c0
     have e1:(Y.drewN nq).cell? ⟨w.heap.size+1,d,none⟩=some (.int .u64 (y:Int)):=c1
     have eb:=AV hYb nq
     clear c0 c1 hYb
     generalize Y.drewN nq=Y2 at *
     go_quiet ((go_at_call 129;exact Calls.quiet_of_same (Rt x y _)))
     go_wp2_with fail
     go_ret
     exact⟨BE HE.out.symm,AV eb _⟩
def Dv (p:Nat→Nat):Nat→Nat
 | 0=>0
 | n+1=>Dv p n+p n*B64^n
def upd (p:Nat→Nat) (i x:Nat):Nat→Nat:=fun k=>if k=i then x else p k
theorem II (p q:Nat→Nat):∀ n,(∀ k,k<n→p k=q k)→Dv p n=Dv q n
 | 0,_=>rfl
 | n+1,h=>by rw[Dv,Dv,II p q n (fun k hk=>h k (by omega)),h n (by omega)]
theorem LT (p:Nat→Nat) (i x:Nat):∀ n,i<n→Dv (upd p i x) n+p i*B64^i=Dv p n+x*B64^i
 | 0,h=>by omega
 | n+1,h=>by
   rw[Dv,Dv]
   by_cases e:i=n
   ·subst e
    rw[II (upd p i x) p i (fun k hk=>by unfold upd;rw[if_neg (by omega)])]
    have:upd p i x i=x:=by unfold upd;rw[if_pos rfl]
    rw[this]
    omega
   ·have h1:=LT p i x n (by omega)
    have:upd p i x n=p n:=by unfold upd;rw[if_neg (by omega)]
    rw[this]
    omega
theorem Js (p:Nat→Nat) (h:∀ k,p k<B64):∀ n,Dv p n<B64^n
 | 0=>by simp[Dv]
 | n+1=>by
   have h1:=Js p h n
   have h2:=h n
   have h3:(p n+1)*B64^n≤B64*B64^n:=Nat.mul_le_mul_right _ h2
   rw[Dv,Nat.pow_succ,Nat.mul_comm (B64^n)]
   rw[Nat.add_mul,Nat.one_mul] at h3
   omega
theorem Lf (p:Nat→Nat) (h:∀ k,p k<B64) (i:Nat):∀ n,i<n→wd (Dv p n) i=p i
 | 0,hi=>by omega
 | n+1,hi=>by
   unfold wd
   rw[Dv]
   by_cases e:i=n
   ·subst e
    rw[Nat.add_mul_div_right _ _ (Nat.pow_pos B9),Nat.div_eq_of_lt (Js p h i),Nat.zero_add,Nat.mod_eq_of_lt (h i)]
   ·have ih:=Lf p h i n (by omega)
    unfold wd at ih
    obtain⟨d,rfl⟩:∃ d,n=i+1+d:=⟨n-i-1,by omega⟩
    have e2:p (i+1+d)*B64^(i+1+d)=p (i+1+d)*B64^d*B64*B64^i:=by
     rw[show i+1+d=d+1+i by omega,Nat.pow_add,Nat.pow_succ,Nat.mul_assoc,Nat.mul_assoc,Nat.mul_assoc]
    rw[e2,Nat.add_mul_div_right _ _ (Nat.pow_pos B9),Nat.add_mul_mod_self_right,ih]
theorem Gt (a i:Nat):a%B64^(i+1)=a%B64^i+wd a i*B64^i:=by
 unfold wd
 rw[Nat.pow_succ,Nat.mod_mul]
 rw[Nat.mul_comm (B64^i) (a/B64^i%B64)]
theorem Pn (a i n:Nat) (h:i<n):wd (a%B64^n) i=wd a i:=by
 obtain⟨d,rfl⟩:∃ d,n=i+1+d:=⟨n-i-1,by omega⟩
 unfold wd
 have hd:=Nat.div_add_mod a (B64^(i+1+d))
 generalize a%B64^(i+1+d)=r at hd ⊢
 generalize a/B64^(i+1+d)=q at hd
 rw[← hd]
 have e2:B64^(i+1+d)*q=q*B64^d*B64*B64^i:=by
  rw[show i+1+d=d+1+i by omega,Nat.pow_add,Nat.pow_succ,Nat.mul_comm,Nat.mul_assoc,Nat.mul_assoc,Nat.mul_assoc]
 rw[e2,Nat.add_comm,Nat.add_mul_div_right _ _ (Nat.pow_pos B9),Nat.add_mul_mod_self_right]
theorem Mi (a i n:Nat):wd (a/B64^n) i=wd a (n+i):=by
 unfold wd
 rw[Nat.div_div_eq_div_mul,← Nat.pow_add]
theorem Yp (x y p c:Nat) (hx:x<18446744073709551616) (hy:y<18446744073709551616) (hp:p<18446744073709551616) (hc:c<18446744073709551616) :
    ∃ h l o1 s1 o2 s2,x*y/18446744073709551616=h∧x*y%18446744073709551616=l∧(l+p+0)%18446744073709551616=s1∧(l+p+0)/18446744073709551616=o1∧(s1+c+0)%18446744073709551616=s2∧(s1+c+0)/18446744073709551616=o2 ∧
      h+o1<18446744073709551616∧h+o1+o2<18446744073709551616∧s2<18446744073709551616∧l<18446744073709551616∧s1<18446744073709551616∧o1≤1∧o2≤1∧s2+(h+o1+o2)*B64=p+c+x*y:=by
 have hm:x*y≤18446744073709551615*18446744073709551615:=Nat.mul_le_mul (by omega) (by omega)
 refine⟨_,_,_,_,_,_,rfl,rfl,rfl,rfl,rfl,rfl,?_⟩
 generalize x*y=M at *
 unfold B64
 omega
theorem az (p:Nat→Nat) (n k x:Nat) (hk:k<n) (V:Nat) (c C s:Nat) (y b i j:Nat) (hkj:k=i+j)
    (hV:Dv p n+c*B64^k=V+x*(b%B64^j)*B64^i) (he:s+C*B64=p k+c+x*y) (hy:y=wd b j) :
    Dv (upd p k s) n+C*B64^(k+1)=V+x*(b%B64^(j+1))*B64^i:=by
 have hu:=LT p k s n hk
 have hm:=Gt b j
 rw[← hy] at hm
 have h1:s*B64^k+C*B64^(k+1)=p k*B64^k+c*B64^k+x*y*B64^k:=by
  have:=congrArg (·*B64^k) he
  simp only[Nat.add_mul] at this
  rw[Nat.pow_succ,Nat.mul_comm (B64^k) B64,← Nat.mul_assoc]
  exact this
 have h2:x*(b%B64^(j+1))*B64^i=x*(b%B64^j)*B64^i+x*y*B64^k:=by
  rw[hm,Nat.mul_add,Nat.add_mul,hkj,Nat.pow_add]
  congr 1
  rw[Nat.mul_comm (B64^i) (B64^j),← Nat.mul_assoc,← Nat.mul_assoc]
 rw[h2]
 omega
theorem dl (p:Nat→Nat) (n i c a b:Nat) (hi:i+4<n) (hb:b<B64^4) (hz:p (i+4)=0)
    (hV:Dv p n+c*B64^(i+4)=(a%B64^i)*b+wd a i*(b%B64^4)*B64^i):Dv (upd p (i+4) c) n=(a%B64^(i+1))*b:=by
 have hu:=LT p (i+4) c n hi
 rw[hz,Nat.zero_mul,Nat.add_zero] at hu
 rw[hu,hV,Nat.mod_eq_of_lt hb,Gt a i,Nat.add_mul]
 congr 1
 rw[Nat.mul_assoc,Nat.mul_comm b,Nat.mul_assoc]
def OR (p:Nat→Nat):List Value:=(List.range 8).map fun k=>.int .u64 (p k:Int)
theorem Eh (p:Nat→Nat) (k:Nat) (h:k<8):(OR p)[k]?=some (.int .u64 (p k:Int)):=by
 unfold OR
 rw[List.getElem?_map,List.getElem?_range h]
 rfl
theorem YC (p:Nat→Nat) (i x:Nat):(OR p).set i (.int .u64 (x:Int))=OR (upd p i x):=by
 unfold OR
 refine List.ext_getElem (by simp) fun k h1 h2=>?_
 rw[List.getElem_set]
 simp only[List.getElem_map,List.getElem_range]
 unfold upd
 by_cases e:i=k
 ·rw[if_pos e,if_pos e.symm]
 ·rw[if_neg e,if_neg (fun h=>e h.symm)]
def dg (n i:Nat):Nat:=n/65536^i%65536
theorem Dx (n i:Nat):dg n i<65536:=Nat.mod_lt _ (by decide)
theorem Ei (i:Nat):0<65536^i:=Nat.pow_pos (by decide)
theorem Lu {n len i:Nat} (h:n<65536^len) (hi:len≤i):dg n i=0:=by
 unfold dg
 have:n<65536^i:=Nat.lt_of_lt_of_le h (Nat.pow_le_pow_right (by decide) hi)
 rw[Nat.div_eq_of_lt this]
theorem I6 (n i:Nat):n/65536^i=n/65536^(i+1)*65536+dg n i:=by
 unfold dg
 rw[Nat.pow_succ,← Nat.div_div_eq_div_mul]
 omega
theorem Ow (n i:Nat):n%65536^(i+1)=n%65536^i+dg n i*65536^i:=by
 unfold dg
 rw[Nat.pow_succ,Nat.mod_mul,Nat.mul_comm (65536^i)]
theorem Kt (a b P:Nat) (hP:0<P):(a+b)/P=a/P+b/P+(a%P+b%P)/P:=by
 have h:a+b=(a%P+b%P)+P*(a/P+b/P):=by
  have h1:=Nat.div_add_mod a P
  have h2:=Nat.div_add_mod b P
  rw[Nat.mul_add]
  omega
 rw[h,Nat.add_mul_div_left _ _ hP]
 have h3:((a%P+b%P)+P*(a/P+b/P))=a+b:=h.symm
 omega
def ov (a b i:Nat):Nat:=(a%65536^i+b%65536^i)/65536^i
theorem jq (a b:Nat):ov a b 0=0:=by simp[ov,Nat.mod_one]
theorem gQ (a b i:Nat):ov a b i≤1:=by
 unfold ov
 have h1:=Nat.mod_lt a (Ei i)
 have h2:=Nat.mod_lt b (Ei i)
 have:(a%65536^i+b%65536^i)/65536^i<2:=by
  rw[Nat.div_lt_iff_lt_mul (Ei i)];omega
 omega
theorem fO (a b i:Nat):dg (a+b) i=(dg a i+dg b i+ov a b i)%65536:=by
 unfold dg ov
 rw[Kt a b _ (Ei i)]
 omega
theorem fd (a b i:Nat):ov a b (i+1)=(dg a i+dg b i+ov a b i)/65536:=by
 unfold ov
 rw[Ow a i,Ow b i,Nat.pow_succ,← Nat.div_div_eq_div_mul]
 congr 1
 have h:a%65536^i+dg a i*65536^i+(b%65536^i+dg b i*65536^i)=(a%65536^i+b%65536^i)+(dg a i+dg b i)*65536^i:=by
  rw[Nat.add_mul];omega
 rw[h,Nat.add_mul_div_right _ _ (Ei i)]
 omega
def br (a b i:Nat):Nat:=if a%65536^i<b%65536^i then 1 else 0
theorem jd (a b:Nat):br a b 0=0:=by simp[br,Nat.mod_one]
theorem ef (a b i:Nat):br a b i≤1:=by unfold br;split <;> omega
theorem Qc (a b P:Nat) (hP:0<P) (h:b≤a):(a-b)/P+b/P+(if a%P<b%P then 1 else 0)=a/P:=by
 have h1:=Nat.div_add_mod a P
 have h2:=Nat.div_add_mod b P
 have h3:=Nat.mod_lt a hP
 have h4:=Nat.mod_lt b hP
 have e:a=b+(a-b):=by omega
 have h5:=Kt b (a-b) P hP
 rw[← e] at h5
 have h6:=Nat.div_add_mod (a-b) P
 have h7:=Nat.mod_lt (a-b) hP
 generalize (a-b)%P=r at *
 generalize (a-b)/P=q at *
 have h8:(b%P+r)/P=if a%P<b%P then 1 else 0:=by
  have h9:(b%P+r)/P<2:=by rw[Nat.div_lt_iff_lt_mul hP];omega
  have h10:a%P=(b%P+r)%P:=by
   have:a=(b%P+r)+P*(b/P+q):=by rw[Nat.mul_add];omega
   rw[this,Nat.add_mul_mod_self_left]
  have h11:=Nat.div_add_mod (b%P+r) P
  generalize (b%P+r)/P=d at *
  rw[h10]
  have:d=0∨d=1:=by omega
  rcases this with rfl | rfl
  ·rw[if_neg (by omega)]
  ·rw[if_pos (by omega)]
 omega
theorem gK (a b i:Nat) (h:b≤a):dg (a-b) i=(65536+dg a i-dg b i-br a b i)%65536:=by
 have h1:(a-b)/65536^i+b/65536^i+br a b i=a/65536^i:=Qc a b _ (Ei i) h
 have h2:=ef a b i
 unfold dg
 generalize br a b i=t at *
 omega
theorem fK (a b i:Nat):br a b (i+1)=1-(65536+dg a i-dg b i-br a b i)/65536:=by
 have ha:=Ow a i
 have hb:=Ow b i
 have h1:=Nat.mod_lt a (Ei i)
 have h2:=Nat.mod_lt b (Ei i)
 have h3:=Dx a i
 have h4:=Dx b i
 unfold br
 rw[ha,hb]
 generalize a%65536^i=x at *
 generalize b%65536^i=y at *
 generalize dg a i=u at *
 generalize dg b i=v at *
 generalize 65536^i=P at *
 have hlt:x+u*P<y+v*P↔u<v∨(u=v∧x<y):=by
  constructor
  ·intro hh
   rcases Nat.lt_trichotomy u v with g | g | g
   ·exact .inl g
   ·subst g;exact .inr ⟨rfl,by omega⟩
   ·have:(v+1)*P≤u*P:=Nat.mul_le_mul_right _ g
    rw[Nat.add_mul] at this
    omega
  ·rintro (g | ⟨rfl,g⟩)
   ·have:(u+1)*P≤v*P:=Nat.mul_le_mul_right _ g
    rw[Nat.add_mul] at this
    omega
   ·omega
 by_cases g:x+u*P<y+v*P
 ·rw[if_pos g]
  rw[hlt] at g
  split <;> omega
 ·rw[if_neg g]
  rw[hlt] at g
  split <;> omega
theorem gI (n i:Nat):dg n (i/16)/2^(i%16)%2=n/2^i%2:=by
 unfold dg
 have h0:∀ m r:Nat,r<16→m%65536/2^r%2=m/2^r%2:=fun m r hr=>by
  have h1:=Nat.testBit_mod_two_pow m 16 r
  rw[Nat.testBit_eq_decide_div_mod_eq,Nat.testBit_eq_decide_div_mod_eq,decide_eq_true hr,Bool.true_and,decide_eq_decide,show (2:Nat)^16=65536 from rfl] at h1
  have h2:m%65536/2^r%2<2:=Nat.mod_lt _ (by decide)
  have h3:m/2^r%2<2:=Nat.mod_lt _ (by decide)
  omega
 rw[h0 _ _ (Nat.mod_lt _ (by decide)),Nat.div_div_eq_div_mul]
 have:65536^(i/16)*2^(i%16)=2^i:=by
  rw[show 65536=2^16 from rfl,← Nat.pow_mul,← Nat.pow_add,Nat.div_add_mod]
 rw[this]
theorem UA (a b c:Nat) (h:a/65536^(c+1)=b/65536^(c+1)) (hw:dg a c<dg b c):a<b:=by
 apply Nat.lt_of_not_le
 intro hle
 have h1:b/65536^c≤a/65536^c:=Nat.div_le_div_right hle
 rw[I6 a c,I6 b c,h] at h1
 omega
theorem bG (a b c:Nat) (h:a/65536^(c+1)=b/65536^(c+1)) (hw:dg a c=dg b c):a/65536^c=b/65536^c:=by
 rw[I6 a c,I6 b c,h,hw]
theorem bz (y d s:Nat) (hy:y<2^s):y ||| d <<< s=y+d*2^s:=by
 rw[Nat.or_comm,← Nat.shiftLeft_add_eq_or_of_lt hy,Nat.shiftLeft_eq,Nat.add_comm]
theorem J0 (c q i:Nat) (hc:c*q=64):(2^c)^i=B64^(i/q)*2^(c*(i%q)):=by
 have:c*i=64*(i/q)+c*(i%q):=by
  have h:=Nat.div_add_mod i q
  have h2:c*i=c*(q*(i/q)+i%q):=by rw[h]
  rw[h2,Nat.mul_add,← Nat.mul_assoc,hc]
 rw[show B64=2^64 from rfl,← Nat.pow_mul,← Nat.pow_mul,← Nat.pow_add,this]
theorem Rb (x c q i:Nat) (hc:c*q=64) (hq:0<q) : 
    wd (x%(2^c)^(i+1)) (i/q)=wd (x%(2^c)^i) (i/q) ||| (x/(2^c)^i%2^c) <<< (c*(i%q)) ∧
    (x/(2^c)^i%2^c)*2^(c*(i%q))<B64 ∧
    ∀ j,j≠i/q→wd (x%(2^c)^(i+1)) j=wd (x%(2^c)^i) j:=by
 have hD:0<(2^c)^i:=Nat.pow_pos (Nat.pow_pos (by decide))
 have hm:x%(2^c)^(i+1)=x%(2^c)^i+(x/(2^c)^i%2^c)*(2^c)^i:=by
  rw[Nat.pow_succ,Nat.mod_mul,Nat.mul_comm ((2^c)^i)]
 have hp:=J0 c q i hc
 have hy:=Nat.mod_lt x hD
 have hd:x/(2^c)^i%2^c<2^c:=Nat.mod_lt _ (Nat.pow_pos (by decide))
 have hr:i%q<q:=Nat.mod_lt _ hq
 have hs:2^c*2^(c*(i%q))≤B64:=by
  rw[← Nat.pow_add,show B64=2^64 from rfl]
  refine Nat.pow_le_pow_right (by decide) ?_
  have:c*(i%q+1)≤c*q:=Nat.mul_le_mul_left _ (by omega)
  rw[Nat.mul_add] at this
  omega
 have hds:(x/(2^c)^i%2^c)*2^(c*(i%q))+2^(c*(i%q))≤B64:=by
  have:(x/(2^c)^i%2^c+1)*2^(c*(i%q))≤2^c*2^(c*(i%q)):=Nat.mul_le_mul_right _ hd
  rw[Nat.add_mul] at this
  omega
 rw[hm]
 generalize x%(2^c)^i=y at *
 generalize x/(2^c)^i%2^c=d at *
 rw[hp] at hy ⊢
 generalize i/q=J at *
 generalize c*(i%q)=s at *
 clear hm hp hD
 have hBJ:0<B64^J:=Nat.pow_pos B9
 have hs0:0<2^s:=Nat.pow_pos (by decide)
 have hyJ:y/B64^J<2^s:=by rw[Nat.div_lt_iff_lt_mul hBJ,Nat.mul_comm];exact hy
 have e1:d*(B64^J*2^s)=d*2^s*B64^J:=by rw[Nat.mul_comm (B64^J),Nat.mul_assoc]
 refine⟨?_,by omega,fun j hj=>?_⟩
 ·unfold wd
  rw[e1,Nat.add_mul_div_right _ _ hBJ,Nat.mod_eq_of_lt (show y/B64^J<B64 by omega),bz _ _ _ hyJ]
  exact Nat.mod_eq_of_lt (by omega)
 ·unfold wd
  rcases Nat.lt_or_gt_of_ne hj with h | h
  ·obtain⟨k,rfl⟩:∃ k,J=j+1+k:=⟨J-j-1,by omega⟩
   have e2:d*2^s*B64^(j+1+k)=d*2^s*B64^k*B64*B64^j:=by
    rw[show j+1+k=k+1+j by omega,Nat.pow_add,Nat.pow_succ]
    simp only[Nat.mul_assoc]
   rw[e1,e2,Nat.add_mul_div_right _ _ (Nat.pow_pos B9),Nat.add_mul_mod_self_right]
  ·have hz:∀ z,z<B64^(J+1)→z/B64^j%B64=0:=fun z hz=>by
     rw[Nat.div_eq_of_lt (Nat.lt_of_lt_of_le hz (Nat.pow_le_pow_right B9 h))]
     exact Nat.zero_mod _
   rw[hz,hz]
   ·rw[Nat.pow_succ]
    exact Nat.lt_of_lt_of_le hy (Nat.mul_le_mul_left _ (by omega))
   ·rw[e1,Nat.pow_succ]
    have h1:y<2^s*B64^J:=by rw[Nat.mul_comm];exact hy
    have h2:(d*2^s+2^s)*B64^J≤B64*B64^J:=Nat.mul_le_mul_right _ hds
    rw[Nat.add_mul,Nat.mul_comm B64] at h2
    omega
def H16:Nat:=65536
def hd (n i:Nat):Nat:=n/H16^i%H16
theorem ew (n i:Nat):hd n i=dg n i:=rfl
def Fy (p:Nat→Nat):Nat→Nat
 | 0=>0
 | n+1=>Fy p n+p n*H16^n
theorem Np (p q:Nat→Nat):∀ n,(∀ k,k<n→p k=q k)→Fy p n=Fy q n
 | 0,_=>rfl
 | n+1,h=>by rw[Fy,Fy,Np p q n (fun k hk=>h k (by omega)),h n (by omega)]
theorem Mm (p:Nat→Nat) (i x:Nat):∀ n,i<n→Fy (upd p i x) n+p i*H16^i=Fy p n+x*H16^i
 | 0,h=>by omega
 | n+1,h=>by
   rw[Fy,Fy]
   by_cases e:i=n
   ·subst e
    rw[Np (upd p i x) p i (fun k hk=>by unfold upd;rw[if_neg (by omega)])]
    have:upd p i x i=x:=by unfold upd;rw[if_pos rfl]
    rw[this]
    omega
   ·have h1:=Mm p i x n (by omega)
    have:upd p i x n=p n:=by unfold upd;rw[if_neg (by omega)]
    rw[this]
    omega
theorem TR (p:Nat→Nat) (h:∀ k,p k<H16):∀ n,Fy p n<H16^n
 | 0=>by simp[Fy]
 | n+1=>by
   have h1:=TR p h n
   have h2:=h n
   have h3:(p n+1)*H16^n≤H16*H16^n:=Nat.mul_le_mul_right _ h2
   rw[Fy,Nat.pow_succ,Nat.mul_comm (H16^n)]
   rw[Nat.add_mul,Nat.one_mul] at h3
   omega
theorem Ua (p:Nat→Nat) (h:∀ k,p k<H16) (i:Nat):∀ n,i<n→hd (Fy p n) i=p i
 | 0,hi=>by omega
 | n+1,hi=>by
   unfold hd
   rw[Fy]
   by_cases e:i=n
   ·subst e
    rw[Nat.add_mul_div_right _ _ (Nat.pow_pos (by decide:0<H16)),Nat.div_eq_of_lt (TR p h i),Nat.zero_add,Nat.mod_eq_of_lt (h i)]
   ·have ih:=Ua p h i n (by omega)
    unfold hd at ih
    obtain⟨d,rfl⟩:∃ d,n=i+1+d:=⟨n-i-1,by omega⟩
    have e2:p (i+1+d)*H16^(i+1+d)=p (i+1+d)*H16^d*H16*H16^i:=by
     rw[show i+1+d=d+1+i by omega,Nat.pow_add,Nat.pow_succ,Nat.mul_assoc,Nat.mul_assoc,Nat.mul_assoc]
    rw[e2,Nat.add_mul_div_right _ _ (Nat.pow_pos (by decide:0<H16)),Nat.add_mul_mod_self_right,ih]
theorem NL (a i:Nat):a%H16^(i+1)=a%H16^i+hd a i*H16^i:=by
 unfold hd
 rw[Nat.pow_succ,Nat.mod_mul]
 rw[Nat.mul_comm (H16^i) (a/H16^i%H16)]
theorem f8 (a i n:Nat) (h:i<n):hd (a%H16^n) i=hd a i:=by
 obtain⟨d,rfl⟩:∃ d,n=i+1+d:=⟨n-i-1,by omega⟩
 unfold hd
 have hd:=Nat.div_add_mod a (H16^(i+1+d))
 generalize a%H16^(i+1+d)=r at hd ⊢
 generalize a/H16^(i+1+d)=q at hd
 rw[← hd]
 have e2:H16^(i+1+d)*q=q*H16^d*H16*H16^i:=by
  rw[show i+1+d=d+1+i by omega,Nat.pow_add,Nat.pow_succ,Nat.mul_comm,Nat.mul_assoc,Nat.mul_assoc,Nat.mul_assoc]
 rw[e2,Nat.add_comm,Nat.add_mul_div_right _ _ (Nat.pow_pos (by decide:0<H16)),Nat.add_mul_mod_self_right]
theorem fk (a i n:Nat):hd (a/H16^n) i=hd a (n+i):=by
 unfold hd
 rw[Nat.div_div_eq_div_mul,← Nat.pow_add]
theorem N5 (p:Nat→Nat) (n k x:Nat) (hk:k<n) (V:Nat) (c C s:Nat) (y b i j:Nat) (hkj:k=i+j)
    (hV:Fy p n+c*H16^k=V+x*(b%H16^j)*H16^i) (he:s+C*H16=p k+c+x*y) (hy:y=hd b j) :
    Fy (upd p k s) n+C*H16^(k+1)=V+x*(b%H16^(j+1))*H16^i:=by
 have hu:=Mm p k s n hk
 have hm:=NL b j
 rw[← hy] at hm
 have h1:s*H16^k+C*H16^(k+1)=p k*H16^k+c*H16^k+x*y*H16^k:=by
  have:=congrArg (·*H16^k) he
  simp only[Nat.add_mul] at this
  rw[Nat.pow_succ,Nat.mul_comm (H16^k) H16,← Nat.mul_assoc]
  exact this
 have h2:x*(b%H16^(j+1))*H16^i=x*(b%H16^j)*H16^i+x*y*H16^k:=by
  rw[hm,Nat.mul_add,Nat.add_mul,hkj,Nat.pow_add]
  congr 1
  rw[Nat.mul_comm (H16^i) (H16^j),← Nat.mul_assoc,← Nat.mul_assoc]
 rw[h2]
 omega
theorem NF (x y p c:Nat) (hx:x<65536) (hy:y<65536) (hp:p<65536) (hc:c<65536) :
    p+x*y+c<18446744073709551616∧x*y<18446744073709551616∧p+x*y<18446744073709551616∧(p+x*y+c)%65536<65536∧(p+x*y+c)/65536<65536∧(p+x*y+c)%65536+(p+x*y+c)/65536*H16=p+c+x*y:=by
 have hm:x*y≤65535*65535:=Nat.mul_le_mul (by omega) (by omega)
 generalize x*y=M at *
 unfold H16
 omega
theorem Qq (p:Nat→Nat) (n i c a b lb:Nat) (hi:i+lb<n) (hb:b<H16^lb) (hz:p (i+lb)=0)
    (hV:Fy p n+c*H16^(i+lb)=(a%H16^i)*b+hd a i*(b%H16^lb)*H16^i):Fy (upd p (i+lb) c) n=(a%H16^(i+1))*b:=by
 have hu:=Mm p (i+lb) c n hi
 rw[hz,Nat.zero_mul,Nat.add_zero] at hu
 rw[hu,hV,Nat.mod_eq_of_lt hb,NL a i,Nat.add_mul]
 congr 1
 rw[Nat.mul_assoc,Nat.mul_comm b,Nat.mul_assoc]
theorem Uo (p:Nat→Nat) (n:Nat) (h:∀ k,p k<H16) (k:Nat) (hk:k<n):dg (Fy p n) k=p k:=Ua p h k n hk
def Bw (p:Nat→Nat) (N:Nat):List Value:=(List.range N).map fun k=>.int .u64 (p k:Int)
theorem BC (p:Nat→Nat) (N k:Nat) (h:k<N):(Bw p N)[k]?=some (.int .u64 (p k:Int)):=by
 unfold Bw
 rw[List.getElem?_map,List.getElem?_range h]
 rfl
theorem DC (p:Nat→Nat) (N i x:Nat):(Bw p N).set i (.int .u64 (x:Int))=Bw (upd p i x) N:=by
 unfold Bw
 refine List.ext_getElem (by simp) fun j h1 h2=>?_
 rw[List.getElem_set]
 simp only[List.getElem_map,List.getElem_range]
 unfold upd
 by_cases e:i=j
 ·rw[if_pos e,if_pos e.symm]
 ·rw[if_neg e,if_neg (fun h=>e h.symm)]
theorem YA (p:Nat→Nat) (N:Nat):(Bw p N).length=N:=by unfold Bw;simp
theorem Nx (n:Nat):madeCells #[.int .u64 0] n=(Bw (fun _=>0) n).toArray:=by
 apply Array.ext
 ·rw[size_madeCells];simp[YA]
 ·intro i h1 h2
  have hi:i<n:=by simpa [size_madeCells] using h1
  simp[madeCells,Bw,Nat.mod_one]
def IsN (w:World) (a:Option Addr) (len cap n:Nat):Prop :=
 n<65536^len∧len≤200∧(len=0∨∃ b,a=some ⟨b,0,none⟩∧len≤cap∧b<w.heap.size∧∀ i,i<len→w.cell? ⟨b,i,none⟩=some (.int .u64 (dg n i:Int)))
theorem A6 {w w':World} {a:Option Addr} {len cap n:Nat} (h:IsN w a len cap n) (hb:Below w.heap.size w w'):IsN w' a len cap n:=by
 obtain⟨h1,h2,h3 | ⟨b,rfl,h4,h5,h6⟩⟩:=h
 ·exact⟨h1,h2,.inl h3⟩
 ·exact⟨h1,h2,.inr ⟨b,rfl,h4,by have:=hb.size;omega,fun i hi=>(hb.cell (p:=⟨b,i,none⟩) h5).trans (h6 i hi)⟩⟩
theorem aL {w:World} {b N cap n:Nat} {p:Nat→Nat} {t:TypeId} (h:w.heap[b]?=some (.cells (Bw p N).toArray t (0,0))) (hb:b<w.heap.size) (hn:n<65536^N) (hN:N≤200) (hc:N≤cap) (hp:∀ k,k<N→p k=dg n k):IsN w (some ⟨b,0,none⟩) N cap n :=
 ⟨hn,hN,.inr ⟨b,rfl,hc,hb,fun i hi=>by rw[← hp i hi];exact (Af h (BC p N i hi)).1⟩⟩
theorem bI (w:World):IsN w none 0 0 0:=⟨by decide,by omega,.inl rfl⟩
theorem Ug {w:World} {a:Option Addr} {len cap n:Nat} (h:IsN w a len cap n) (l:Nat) (hl:l≤len) (hn:n<65536^l):IsN w a l cap n:=by
 obtain⟨h1,h2,h3 | ⟨b,rfl,h4,h5,h6⟩⟩:=h
 ·exact⟨hn,by omega,.inl (by omega)⟩
 ·exact⟨hn,by omega,.inr ⟨b,rfl,by omega,h5,fun i hi=>h6 i (by omega)⟩⟩
theorem Ec (a:Option Addr) (len cap n i:Nat) (w:World) (h:IsN w a len cap n) (hi:i≤100000) :
    Calls Tryz.prog 153 #[.slice a len cap,.int .i64 (i:Int)] w fun e w'=>e=.returned (.int .u64 (dg n i:Int))∧w'=w:=by
 obtain⟨h1,h2,h3⟩:=h
 have hlen:((len:Nat):Int)≤200:=by omega
 by_cases hlt:i<len
 ·obtain⟨b,rfl,hcap,hb,hc⟩:∃ b,a=some ⟨b,0,none⟩∧len≤cap∧b<w.heap.size∧∀ i,i<len→w.cell? ⟨b,i,none⟩=some (.int .u64 (dg n i:Int)):=by
    rcases h3 with h3 | h3
    ·omega
    ·exact h3
  have c0:=hc i hlt
  have t0:¬ (i:Int)<0:=by omega
  have t1:¬ (len:Int)≤(i:Int):=by omega
  have t2:(i:Int)<(len:Int):=by omega
  clear h1 h3 hc
  generalize dg n i=x at c0 ⊢
  go_enter Tryz.func153,Tryz.ntmps153
  go_wp2_with fail
  go_ret
  exact⟨rfl,rfl⟩
 ·have e0:=Lu h1 (by omega:len≤i)
  rw[e0]
  have t0:¬ (i:Int)<0:=by omega
  have t1:(len:Int)≤(i:Int):=by omega
  clear h1 h3 e0
  go_enter Tryz.func153,Tryz.ntmps153
  go_wp2_with fail
  go_ret
  exact⟨rfl,rfl⟩
theorem Og (x r:Nat):(x:Int)/2^r=((x/2^r:Nat):Int):=by
 have e2:((2:Int)^r)=((2^r:Nat):Int):=by rw[Int.natCast_pow];rfl
 rw[e2,← Int.natCast_ediv]
theorem LH (a:Option Addr) (len cap n i:Nat) (w:World) (h:IsN w a len cap n) (hi:i≤100000) :
    Calls Tryz.prog 124 #[.slice a len cap,.int .i64 (i:Int)] w fun e w'=>e=.returned (.int .u64 ((n/2^i%2:Nat):Int))∧w'=w:=by
 obtain⟨Q,hQ⟩:=exzb (i/16)
 obtain⟨r,hr⟩:=exzb (i%16)
 have hbit:=gI n i
 rw[hQ,hr] at hbit
 have LA:=fun w h=>Ec a len cap n Q w h (by omega)
 have hx:=Dx n Q
 rw[← hbit]
 have HH:=Lh h
 clear h hbit
 generalize dg n Q=x at *
 have t1:(i:Int).tdiv 16=(Q:Int):=by rw[Int.tdiv_eq_ediv_of_nonneg (by omega)];omega
 have t2:(i:Int).tmod 16=(r:Int):=by rw[Int.tmod_eq_emod_of_nonneg (by omega)];omega
 have d1:(i:Int)/16=(Q:Int):=by omega
 have d2:(i:Int)%16=(r:Int):=by omega
 have nr:(r:Int).toNat=r:=by omega
 have r9:(r:Int)<16:=by omega
 have i9:(i:Int)≤100000:=by omega
 have ps:=Og x r
 have hy:x/2^r<65536:=Nat.lt_of_le_of_lt (Nat.div_le_self _ _) hx
 generalize x/2^r=y at *
 have LAH:=Lh LA
 clear LA
 go_enter Tryz.func124,Tryz.ntmps124
 go_wp2_with fail
 refine (LAH.out _ HH.out).mono ?_
 rintro e w' ⟨rfl,rfl⟩
 go_wp2_with fail
 go_ret
 exact⟨rfl,rfl⟩
end Go.Proofs.YtnaldciakclccaaGreat
