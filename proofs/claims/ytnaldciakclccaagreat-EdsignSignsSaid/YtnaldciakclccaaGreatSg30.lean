/- Lemmas of this proof. -/
import Derived.Test.YtnaldciakclccaaGreatSg29
namespace Go.Proofs.YtnaldciakclccaaGreat
set_option maxRecDepth 20000
set_option maxHeartbeats 8000000
set_option linter.unusedSimpArgs false
set_option linter.unusedVariables false
open Go.RowKit Go.Sort
theorem XV (L:List UInt8) (h:L.length=32):hs5 L (Jl L):=⟨_,_,JE L h,rfl⟩
theorem UX (L:List UInt8) (h:L.length=64):hs5 L (Jl L):=⟨[L++ER L],[],⟨by simp,by
 intro b hb
 obtain rfl:=List.mem_singleton.1 hb
 have:(ER L).length=64:=by
  unfold ER
  rw[h]
  decide +kernel
 rw[List.length_append,h,this],by decide⟩,rfl⟩
def exF:List UInt8:=[155,79,10,254,40,11,116,106,119,134,132,231,84,66,80,32,87,183,71,58,3,240,143,150,245,163,142,146,135,224,31,143]
theorem Uz:A9 ⟨(exF++ER exF).toArray⟩ 16=[11191175685748782186,8612717466478596128,6320598916537552790,17700147720492162959,9223372036854775808,0,0,0,0,0,0,0,0,0,0,256]:=by decide +kernel
theorem Y8:Fe Bt Bd [11191175685748782186,8612717466478596128,6320598916537552790,17700147720492162959,9223372036854775808,0,0,0,0,0,0,0,0,0,0,256]=[13164475641069989721,9509932450426471338,10942261363819122011,7085227815478653684,306412736497058716,16022516957188131835,7944592038670115968,3645139585509438765]:=by decide +kernel
theorem WY:Jl exF=[182,177,156,216,224,66,111,89,131,250,17,45,137,161,67,170,151,218,184,188,93,235,141,91,98,83,201,40,182,82,114,244,4,64,152,194,169,144,3,156,222,91,106,72,24,223,11,251,110,64,220,93,238,84,36,128,50,150,35,35,231,1,53,45]:=by
 show FI (Fe Bt Bd (A9 ⟨(exF++ER exF).toArray⟩ 16))=_
 rw[Uz,Y8]
 decide +kernel
theorem cD:leN [182,177,156,216,224,66,111,89,131,250,17,45,137,161,67,170,151,218,184,188,93,235,141,91,98,83,201,40,182,82,114,244,4,64,152,194,169,144,3,156,222,91,106,72,24,223,11,251,110,64,220,93,238,84,36,128,50,150,35,35,231,1,53,45]%LN=2015312323900227545039973048451112962192803170366412514267238242679089760755:=by decide +kernel
theorem fe:(44370630452101398467924320556439323233869374150616132215183787387252341590058*(tmX 256 2015312323900227545039973048451112962192803170366412514267238242679089760755 bX bY 1 0 1 1).2.2)%PN=(tmX 256 2015312323900227545039973048451112962192803170366412514267238242679089760755 bX bY 1 0 1 1).1%PN∧(38448863731492799660668882834560725606410712239157980760146247592118262650597*(tmX 256 2015312323900227545039973048451112962192803170366412514267238242679089760755 bX bY 1 0 1 1).2.2)%PN=(tmX 256 2015312323900227545039973048451112962192803170366412514267238242679089760755 bX bY 1 0 1 1).2.1%PN:=by decide +kernel
theorem di:byL (Fd 44370630452101398467924320556439323233869374150616132215183787387252341590058 38448863731492799660668882834560725606410712239157980760146247592118262650597)=[229,86,67,0,195,96,172,114,144,134,226,204,128,110,130,138,132,135,127,30,184,229,217,116,216,115,224,101,34,73,1,85]:=by decide +kernel
def Va:List UInt8:=[229,86,67,0,195,96,172,114,144,134,226,204,128,110,130,138,132,135,127,30,184,229,217,116,216,115,224,101,34,73,1,85,215,90,152,1,130,177,10,183,213,75,254,211,201,100,7,58,14,225,114,243,218,166,35,37,175,2,26,104,247,7,81,26]
theorem Vc:A9 ⟨(Va++ER Va).toArray⟩ 16=[16525469553239567474,10414260556296782474,9549741304790243700,15597056659485688149,15517882598313495223,15369658338902279994,1072264577961829157,12610670944714182938,9223372036854775808,0,0,0,0,0,0,512]:=by decide +kernel
theorem Zy:Fe Bt Bd [16525469553239567474,10414260556296782474,9549741304790243700,15597056659485688149,15517882598313495223,15369658338902279994,1072264577961829157,12610670944714182938,9223372036854775808,0,0,0,0,0,0,512]=[2842059623401484263,18428124957239378555,242614993760941040,9377321590807045314,1076742788928381639,2338513036516782764,698594959256859688,3992703284400623263]:=by decide +kernel
theorem ZX:Jl Va=[39,113,6,43,107,83,111,231,255,189,218,3,32,195,130,123,3,93,241,13,40,77,243,240,130,34,240,77,188,167,164,194,14,241,91,220,152,138,34,199,32,116,17,55,124,51,242,172,9,177,232,106,4,98,52,40,55,104,238,123,160,60,14,159]:=by
 show FI (Fe Bt Bd (A9 ⟨(Va++ER Va).toArray⟩ 16))=_
 rw[Vc,Zy]
 decide +kernel
theorem bU:(2015312323900227545039973048451112962192803170366412514267238242679089760755+(leN [39,113,6,43,107,83,111,231,255,189,218,3,32,195,130,123,3,93,241,13,40,77,243,240,130,34,240,77,188,167,164,194,14,241,91,220,152,138,34,199,32,116,17,55,124,51,242,172,9,177,232,106,4,98,52,40,55,104,238,123,160,60,14,159]%LN)*36144925721603087658594284515452164870581325872720374094707712194495455132720%LN)%LN=5004556735901913393272427758925840403246877222315506387332009764265656498271:=by decide +kernel
theorem UN:(⟨([229,86,67,0,195,96,172,114,144,134,226,204,128,110,130,138,132,135,127,30,184,229,217,116,216,115,224,101,34,73,1,85]).toArray⟩:ByteArray)++⟨(byL 5004556735901913393272427758925840403246877222315506387332009764265656498271).toArray⟩=⟨([229,86,67,0,195,96,172,114,144,134,226,204,128,110,130,138,132,135,127,30,184,229,217,116,216,115,224,101,34,73,1,85,95,184,130,21,144,163,59,172,198,30,57,112,28,249,180,107,210,91,245,240,89,91,190,36,101,81,65,67,142,122,16,11]).toArray⟩:=by
 apply HU.1
 rw[ByteArray.toList_eq,ByteArray.toList_eq,F9]
 decide +kernel
theorem Ze:Gx [229,86,67,0,195,96,172,114,144,134,226,204,128,110,130,138,132,135,127,30,184,229,217,116,216,115,224,101,34,73,1,85,95,184,130,21,144,163,59,172,198,30,57,112,28,249,180,107,210,91,245,240,89,91,190,36,101,81,65,67,142,122,16,11]=[101,53,53,54,52,51,48,48,99,51,54,48,97,99,55,50,57,48,56,54,101,50,99,99,56,48,54,101,56,50,56,97,56,52,56,55,55,102,49,101,98,56,101,53,100,57,55,52,100,56,55,51,101,48,54,53,50,50,52,57,48,49,53,53,53,102,98,56,56,50,49,53,57,48,97,51,51,98,97,99,99,54,49,101,51,57,55,48,49,99,102,57,98,52,54,98,100,50,53,98,102,53,102,48,53,57,53,98,98,101,50,52,54,53,53,49,52,49,52,51,56,101,55,97,49,48,48,98]:=by decide +kernel
theorem au:Hid (∀ (a2:Option Addr) (l2 c2:Nat) (ss2:List (List UInt8)) (w:World),ss2.flatten=[]→l2=ss2.length→ss2.length≤1000→DJ w a2 ss2→Calls Tryz.prog 14 #[.string ⟨exS.toArray⟩,.slice a2 l2 c2] w fun E w'=>E=.returned (.tuple #[.string ⟨([229,86,67,0,195,96,172,114,144,134,226,204,128,110,130,138,132,135,127,30,184,229,217,116,216,115,224,101,34,73,1,85,95,184,130,21,144,163,59,172,198,30,57,112,28,249,180,107,210,91,245,240,89,91,190,36,101,81,65,67,142,122,16,11]).toArray⟩,.int .i64 0])∧Below w.heap.size w w'):=by
 obtain⟨F2,PB,RB,SG,n,D1,D2,en,ePB,hF,hD1,eRB,hD2,eSG,KSg,_⟩:=YZ ⟨exS.toArray⟩ rfl [] (by decide)
 have el:(⟨exS.toArray⟩:ByteArray).data.toList=exS:=rfl
 rw[el,Zo] at en hF
 have en2:n=36144925721603087658594284515452164870581325872720374094707712194495455132720:=en.trans de
 subst en2
 obtain⟨x1,x2⟩:=Uj 36144925721603087658594284515452164870581325872720374094707712194495455132720 38815646466658113194383306759739515082307681141926459231621296960732224964046 11903303657706407974989296177215005343713679411332034699907763981919547054807 (by decide +kernel) (by decide +kernel) (by decide +kernel) fL
 rw[x1,x2,df] at ePB
 have hF2:F2.data.toList=[155,79,10,254,40,11,116,106,119,134,132,231,84,66,80,32,87,183,71,58,3,240,143,150,245,163,142,146,135,224,31,143]:=hF
 rw[hF2,List.append_nil] at hD1
 have d1:D1=[182,177,156,216,224,66,111,89,131,250,17,45,137,161,67,170,151,218,184,188,93,235,141,91,98,83,201,40,182,82,114,244,4,64,152,194,169,144,3,156,222,91,106,72,24,223,11,251,110,64,220,93,238,84,36,128,50,150,35,35,231,1,53,45]:=(TM hD1 (XV exF rfl)).trans WY
 subst d1
 rw[cD] at eRB eSG
 obtain⟨y1,y2⟩:=Uj 2015312323900227545039973048451112962192803170366412514267238242679089760755 44370630452101398467924320556439323233869374150616132215183787387252341590058 38448863731492799660668882834560725606410712239157980760146247592118262650597 (by decide +kernel) (by decide +kernel) (by decide +kernel) fe
 rw[y1,y2,di] at eRB
 have eR:RB.data.toList=[229,86,67,0,195,96,172,114,144,134,226,204,128,110,130,138,132,135,127,30,184,229,217,116,216,115,224,101,34,73,1,85]:=by rw[eRB]
 have eP:PB.data.toList=[215,90,152,1,130,177,10,183,213,75,254,211,201,100,7,58,14,225,114,243,218,166,35,37,175,2,26,104,247,7,81,26]:=by rw[ePB]
 rw[eR,eP,List.append_nil] at hD2
 have d2:D2=[39,113,6,43,107,83,111,231,255,189,218,3,32,195,130,123,3,93,241,13,40,77,243,240,130,34,240,77,188,167,164,194,14,241,91,220,152,138,34,199,32,116,17,55,124,51,242,172,9,177,232,106,4,98,52,40,55,104,238,123,160,60,14,159]:=(TM hD2 (UX Va rfl)).trans ZX
 subst d2
 rw[bU,eRB,UN] at eSG
 subst eSG
 exact KSg
theorem Wd (SD SG:ByteArray) (KU:Hid (∀ w,Calls Tryz.prog 19 #[.string ⟨#[57,100,54,49,98,49,57,100,101,102,102,100,53,97,54,48,98,97,56,52,52,97,102,52,57,50,101,99,50,99,99,52,52,52,52,57,99,53,54,57,55,98,51,50,54,57,49,57,55,48,51,98,97,99,48,51,49,99,97,101,55,102,54,48]⟩] w fun E w'=>E=.returned (.tuple #[.string SD,.int .i64 0])∧Below w.heap.size w w')) (KSg:Hid (∀ (a2:Option Addr) (l2 c2:Nat) (ss2:List (List UInt8)) (w:World),ss2.flatten=[]→l2=ss2.length→ss2.length≤1000→DJ w a2 ss2→Calls Tryz.prog 14 #[.string SD,.slice a2 l2 c2] w fun E w'=>E=.returned (.tuple #[.string SG,.int .i64 0])∧Below w.heap.size w w')) (KX:Hid (∀ w,Calls Tryz.prog 20 #[.string SG] w fun E w'=>E=.returned (.string ⟨#[101,53,53,54,52,51,48,48,99,51,54,48,97,99,55,50,57,48,56,54,101,50,99,99,56,48,54,101,56,50,56,97,56,52,56,55,55,102,49,101,98,56,101,53,100,57,55,52,100,56,55,51,101,48,54,53,50,50,52,57,48,49,53,53,53,102,98,56,56,50,49,53,57,48,97,51,51,98,97,99,99,54,49,101,51,57,55,48,49,99,102,57,98,52,54,98,100,50,53,98,102,53,102,48,53,57,53,98,98,101,50,52,54,53,53,49,52,49,52,51,56,101,55,97,49,48,48,98]⟩)∧Below w.heap.size w w')) (w:World):Calls Tryz.prog 13 #[] w fun E w'=>E=.returned (.bool true)∧Below w.heap.size w w':=by
 have HMIX:=Lh (show Tryz.prog.follows .mixedOrders=true by kernel_rfl)
 go_enter Tryz.func13,Tryz.ntmps13
 have hM0:=Mem.start w
 (go_step;go_step;refine wp_region_lit ?_)
 refine Ad (.bool false) ?_
 simp only[nmA]
 refine wpList_nil ?_
 ((iterate 3 go_step);refine wp_region_lit ?_)
 refine Aj hM0 (args:=#[.string (⟨#[57,100,54,49,98,49,57,100,101,102,102,100,53,97,54,48,98,97,56,52,52,97,102,52,57,50,101,99,50,99,99,52,52,52,52,57,99,53,54,57,55,98,51,50,54,57,49,57,55,48,51,98,97,99,48,51,49,99,97,101,55,102,54,48]⟩)]) (v:=.tuple #[.string SD,.int .i64 0]) (rcf (enters_of Tryz.func19 rfl rfl)) (KU.out w) rfl fun W1 hM1=>?_
 simp only[nmA]
 refine Ad (.tuple #[.string SD,.int .i64 0]) ?_
 simp only[nmA]
 refine Ad (.string SD) ?_
 simp only[nmA]
 refine Ad (.int .i64 0) ?_
 simp only[nmA]
 refine Ad (.string SD) ?_
 simp only[nmA]
 refine Ad (.int .i64 0) ?_
 simp only[nmA]
 refine wpList_nil ?_
 ((iterate 3 go_step);refine wp_region_lit ?_)
 refine Ad (.string SD) ?_
 simp only[nmA]
 refine Aj hM1 (args:=#[.string SD,.slice none 0 0]) (v:=.tuple #[.string SG,.int .i64 0]) (rcf (enters_of Tryz.func14 rfl rfl)) ((fun W=>KSg.out none 0 0 [] W rfl rfl (by simp) (.inl rfl)) W1) rfl fun W2 hM2=>?_
 simp only[nmA]
 refine Ad (.tuple #[.string SG,.int .i64 0]) ?_
 simp only[nmA]
 refine Ad (.string SG) ?_
 simp only[nmA]
 refine Ad (.int .i64 0) ?_
 simp only[nmA]
 refine Ad (.string SG) ?_
 simp only[nmA]
 refine Ad (.int .i64 0) ?_
 simp only[nmA]
 refine wpList_nil ?_
 ((iterate 3 go_step);refine wp_region_lit ?_)
 refine Ad (.string SG) ?_
 simp only[nmA]
 refine Aj hM2 (args:=#[.string SG]) (v:=.string (⟨#[101,53,53,54,52,51,48,48,99,51,54,48,97,99,55,50,57,48,56,54,101,50,99,99,56,48,54,101,56,50,56,97,56,52,56,55,55,102,49,101,98,56,101,53,100,57,55,52,100,56,55,51,101,48,54,53,50,50,52,57,48,49,53,53,53,102,98,56,56,50,49,53,57,48,97,51,51,98,97,99,99,54,49,101,51,57,55,48,49,99,102,57,98,52,54,98,100,50,53,98,102,53,102,48,53,57,53,98,98,101,50,52,54,53,53,49,52,49,52,51,56,101,55,97,49,48,48,98]⟩)) (rcf (enters_of Tryz.func20 rfl rfl)) (KX.out W2) rfl fun W3 hM3=>?_
 simp only[nmA]
 refine Ac (v:=.bool true) (fun W=>Ai rfl rfl rfl (Rp (⟨#[101,53,53,54,52,51,48,48,99,51,54,48,97,99,55,50,57,48,56,54,101,50,99,99,56,48,54,101,56,50,56,97,56,52,56,55,55,102,49,101,98,56,101,53,100,57,55,52,100,56,55,51,101,48,54,53,50,50,52,57,48,49,53,53,53,102,98,56,56,50,49,53,57,48,97,51,51,98,97,99,99,54,49,101,51,57,55,48,49,99,102,57,98,52,54,98,100,50,53,98,102,53,102,48,53,57,53,98,98,101,50,52,54,53,53,49,52,49,52,51,56,101,55,97,49,48,48,98]⟩) _ _ W)) rfl ?_
 simp only[nmA]
 refine Ad (.bool true) ?_
 simp only[nmA]
 refine Ad (.int .i64 0) ?_
 simp only[nmA]
 refine Ac (v:=.bool true) (fun W=>DO W rfl rfl rfl rfl) rfl ?_
 simp only[nmA]
 refine Ad (.bool true) ?_
 simp only[nmA]
 refine Ad (.bool true) ?_
 simp only[nmA]
 refine wpList_nil ?_
 ((iterate 3 go_step);refine bodyPost_ret (v:=.bool true) (Br Tryz.results13 rfl) rfl ⟨?_,hM3.below⟩)
 exact rfl
theorem Ht (w:World):Calls Tryz.prog 13 #[] w fun E w'=>E=.returned (.bool true)∧Below w.heap.size w w':=by
 have KSg:=au
 have KU:=Lh (fun w=>Rm ⟨#[57,100,54,49,98,49,57,100,101,102,102,100,53,97,54,48,98,97,56,52,52,97,102,52,57,50,101,99,50,99,99,52,52,52,52,57,99,53,54,57,55,98,51,50,54,57,49,57,55,48,51,98,97,99,48,51,49,99,97,101,55,102,54,48]⟩ w 32 (by decide) (by decide))
 rw[MN.1,MN.2] at KU
 have KX:=Lh (fun w=>aw ⟨([229,86,67,0,195,96,172,114,144,134,226,204,128,110,130,138,132,135,127,30,184,229,217,116,216,115,224,101,34,73,1,85,95,184,130,21,144,163,59,172,198,30,57,112,28,249,180,107,210,91,245,240,89,91,190,36,101,81,65,67,142,122,16,11]).toArray⟩ w (by decide))
 have e:Gx ((⟨([229,86,67,0,195,96,172,114,144,134,226,204,128,110,130,138,132,135,127,30,184,229,217,116,216,115,224,101,34,73,1,85,95,184,130,21,144,163,59,172,198,30,57,112,28,249,180,107,210,91,245,240,89,91,190,36,101,81,65,67,142,122,16,11]).toArray⟩:ByteArray).data.toList)=[101,53,53,54,52,51,48,48,99,51,54,48,97,99,55,50,57,48,56,54,101,50,99,99,56,48,54,101,56,50,56,97,56,52,56,55,55,102,49,101,98,56,101,53,100,57,55,52,100,56,55,51,101,48,54,53,50,50,52,57,48,49,53,53,53,102,98,56,56,50,49,53,57,48,97,51,51,98,97,99,99,54,49,101,51,57,55,48,49,99,102,57,98,52,54,98,100,50,53,98,102,53,102,48,53,57,53,98,98,101,50,52,54,53,53,49,52,49,52,51,56,101,55,97,49,48,48,98]:=Ze
 rw[e] at KX
 obtain⟨SD,eS⟩:∃ S:ByteArray,S=⟨exS.toArray⟩:=⟨_,rfl⟩
 rw[← eS] at KU KSg
 obtain⟨SG,eP⟩:∃ S:ByteArray,S=⟨([229,86,67,0,195,96,172,114,144,134,226,204,128,110,130,138,132,135,127,30,184,229,217,116,216,115,224,101,34,73,1,85,95,184,130,21,144,163,59,172,198,30,57,112,28,249,180,107,210,91,245,240,89,91,190,36,101,81,65,67,142,122,16,11]).toArray⟩:=⟨_,rfl⟩
 rw[← eP] at KSg KX
 exact Wd SD SG KU KSg KX w
theorem Ol (n k:Nat) (c:Bool) (hc:decide (k<n)=c) (x y:Operand) (W:World):(do eqGuard .gtr 3 x y (.int .i64 (n:Int)) (.int .i64 (k:Int));binOp .gtr 3 (.int .i64 (n:Int)) (.int .i64 (k:Int)):Sem Value).run Tryz.prog W=.ok (.bool c) W:=by
 have e:decide ((k:Int)<(n:Int))=c:=by
  rw[← hc,decide_eq_decide]
  omega
 go_simp
theorem Qf (n L:Nat) (h:n+1=L) (hL:L≤1000) (x y:Operand) (W:World):(do eqGuard .add 3 x y (.int .i64 (n:Int)) (.int .i64 1);binOp .add 3 (.int .i64 (n:Int)) (.int .i64 1):Sem Value).run Tryz.prog W=.ok (.int .i64 (L:Int)) W:=by
 have e:IntKind.i64.wrap ((n:Int)+1)=(L:Int):=by rw[IntWalk.i64_in _ (by omega)];omega
 clear h
 go_simp
theorem TU (a L k:Nat) (h:a%L=k) (h0:0<L) (hL:L≤1000) (ha:a<256) (x y:Operand) (W:World):(do eqGuard .rem 3 x y (.int .i64 (a:Int)) (.int .i64 (L:Int));binOp .rem 3 (.int .i64 (a:Int)) (.int .i64 (L:Int)):Sem Value).run Tryz.prog W=.ok (.int .i64 (k:Int)) W:=by
 have hk:k<L:=by rw[← h];exact Nat.mod_lt _ h0
 have e:((a:Int).tmod (L:Int))=(k:Int):=by rw[Int.tmod_eq_emod_of_nonneg (by omega),← h];rfl
 have e2:IntKind.i64.wrap (k:Int)=(k:Int):=IntWalk.i64_in _ (by omega)
 have e3:(a:Int)%(L:Int)=(k:Int):=by rw[← h];rfl
 have e4:((L:Int) == 0)=false:=by
  rw[beq_eq_false_iff_ne]
  omega
 have e5:¬ (L:Int)=0:=by omega
 have e6:¬ L=0:=by omega
 clear h
 go_simp
theorem Tq (a:Nat) (ha:a<256) (W:World):(convert 5 3 (.int .u8 (a:Int))).run Tryz.prog W=.ok (.int .i64 (a:Int)) W:=by
 have e:IntKind.i64.wrap (a:Int)=(a:Int):=IntWalk.i64_in _ (by omega)
 go_simp
theorem aq (s m:ByteArray) (a:Nat) (hm:decide (300<m.size)=true) (w:World):Calls Tryz.prog 4 #[.string s,.string m,.int .u8 (a:Int)] w fun E w'=>E=.returned (.bool true)∧Below w.heap.size w w':=by
 have HMIX:=Lh (show Tryz.prog.follows .mixedOrders=true by kernel_rfl)
 go_enter Tryz.func4,Tryz.ntmps4
 have hM0:=Mem.start w
 (go_step;go_step;refine wp_region_lit ?_)
 refine Ad (.bool false) ?_
 simp only[nmA]
 refine wpList_nil ?_
 ((iterate 4 go_step);refine wp_region_lit ?_)
 refine Ad (.string m) ?_
 simp only[nmA]
 refine Ac (v:=.int .i64 (m.size:Int)) (fun W=>Cs W rfl (by simp[Act.eval]) rfl Tryz.underlying9) rfl ?_
 simp only[nmA]
 refine Ac (v:=.bool true) (fun W=>Ai rfl rfl rfl (Ol m.size 300 true hm _ _ W)) rfl ?_
 simp only[nmA]
 refine wpList_nil ?_
 ((iterate 4 go_step);refine wp_region_lit ?_)
 refine Aj hM0 (args:=#[]) (v:=.bool true) (rcf (enters_of Tryz.func13 rfl rfl)) (Ht w) rfl fun W1 hM1=>?_
 simp only[nmA]
 refine Ad (.bool true) ?_
 simp only[nmA]
 refine wpList_nil ?_
 ((iterate 4 go_step);refine bodyPost_ret (v:=.bool true) (Br Tryz.results4 rfl) rfl ⟨?_,hM1.below⟩)
 exact rfl
theorem bo (s m:ByteArray) (a:Nat) (hm:decide (300<m.size)=false) (ha:a<256) (L k:Nat) (eL:m.size+1=L) (hL:L≤1000) (hL0:0<L) (ek:a%L=k) (hkm:k≤m.size) (Am Bm:ByteArray) (eA:m.extract 0 k=Am) (eB:m.extract k m.size=Bm) (hss:s.size≠32) (hs:(s.size != 32)=true) (w:World):Calls Tryz.prog 4 #[.string s,.string m,.int .u8 (a:Int)] w fun E w'=>E=.returned (.bool true)∧Below w.heap.size w w':=by
 have HMIX:=Lh (show Tryz.prog.follows .mixedOrders=true by kernel_rfl)
 go_enter Tryz.func4,Tryz.ntmps4
 have hM0:=Mem.start w
 (go_step;go_step;refine wp_region_lit ?_)
 refine Ad (.bool false) ?_
 simp only[nmA]
 refine wpList_nil ?_
 ((iterate 4 go_step);refine wp_region_lit ?_)
 refine Ad (.string m) ?_
 simp only[nmA]
 refine Ac (v:=.int .i64 (m.size:Int)) (fun W=>Cs W rfl (by simp[Act.eval]) rfl Tryz.underlying9) rfl ?_
 simp only[nmA]
 refine Ac (v:=.bool false) (fun W=>Ai rfl rfl rfl (Ol m.size 300 false hm _ _ W)) rfl ?_
 simp only[nmA]
 refine wpList_nil ?_
 ((iterate 7 go_step);refine wp_region_lit ?_)
 refine Ad (.int .u8 (a:Int)) ?_
 simp only[nmA]
 refine Ac (v:=.int .i64 (a:Int)) (fun W=>Ip rfl rfl (Tq a ha W)) rfl ?_
 simp only[nmA]
 refine Ad (.string m) ?_
 simp only[nmA]
 refine Ac (v:=.int .i64 (m.size:Int)) (fun W=>Cs W rfl (by simp[Act.eval]) rfl Tryz.underlying9) rfl ?_
 simp only[nmA]
 refine Ac (v:=.int .i64 (L:Int)) (fun W=>Ai rfl rfl rfl (Qf m.size L eL hL _ _ W)) rfl ?_
 simp only[nmA]
 refine Ac (v:=.int .i64 (k:Int)) (fun W=>Ai rfl rfl rfl (TU a L k ek hL0 hL ha _ _ W)) rfl ?_
 simp only[nmA]
 refine Ad (.int .i64 (k:Int)) ?_
 simp only[nmA]
 refine wpList_nil ?_
 ((iterate 3 go_step);refine An 14 HMIX.out (by decide) (by kernel_rfl) (by kernel_rfl) ?_)
 refine Az (.string s) ?_;simp only[nmA]
 refine Az (.string m) ?_;simp only[nmA]
 refine Az (.int .i64 (k:Int)) ?_;simp only[nmA]
 refine As (v:=.string Am) (fun W=>eA ▸ Bp W rfl (by simp[Act.eval]) (DI (j:=k) W Tryz.underlying9 hkm)) rfl rfl ?_;simp only[nmA]
 refine Az (.string m) ?_;simp only[nmA]
 refine Az (.int .i64 (k:Int)) ?_;simp only[nmA]
 refine As (v:=.string Bm) (fun W=>eB ▸ Bp W rfl (by simp[Act.eval]) (EV (i:=k) W Tryz.underlying9 hkm)) rfl rfl ?_;simp only[nmA]
 refine AR (n:=2) (L:=#[.string Am,.string Bm]) (T:=9) (fun W=>At rfl (by simp[Act.eval]) (Uc Am Bm W)) rfl rfl ?_;simp only[List.nil_append,List.cons_append]
 refine Gf 7 30 (args:=fun b=>#[.string s,.slice (some ⟨b,0,none⟩) 2 2]) (v0:=fun b=>.slice (some ⟨b,0,none⟩) 2 2) (v:=.tuple #[.string ⟨#[]⟩,.int .i64 1]) rfl rfl (fun _=>rfl) (fun b W=>AK W (enters_of Tryz.func14 rfl rfl) rfl (by simp[Act.eval,Act.put])) (fun b W hW h=>eU s hss (some ⟨b,0,none⟩) 2 2 W) ?_;simp only[nmA]
 refine Az (.tuple #[.string ⟨#[]⟩,.int .i64 1]) ?_;simp only[nmA]
 refine Az (.string (⟨#[]⟩)) ?_;simp only[nmA]
 refine Az (.int .i64 1) ?_;simp only[nmA]
 refine Az (.string (⟨#[]⟩)) ?_;simp only[nmA]
 refine Az (.int .i64 1) ?_;simp only[nmA]
 refine AX fun d os=>?_
 refine A6 (t:=30) rfl fun s7=>?_
 refine AF fun hap=>?_
 simp only[nmA] at hap ⊢
 have hM1:=hM0.calls (below_regrown w d os)
 clear hap 
 generalize grow (redrawn w d) os=W1 at hM1 ⊢
 refine wpAny_done (by kernel_rfl) ?_ _
 ((iterate 4 go_step);refine wp_region_lit ?_)
 refine Ad (.string s) ?_
 simp only[nmA]
 refine Ac (v:=.int .i64 (s.size:Int)) (fun W=>Cs W rfl (by simp[Act.eval]) rfl Tryz.underlying9) rfl ?_
 simp only[nmA]
 refine Ac (v:=.bool true) (fun W=>Ai rfl rfl rfl (Kv s.size 32 true hs _ _ W)) rfl ?_
 simp only[nmA]
 refine wpList_nil ?_
 ((iterate 4 go_step);refine wp_region_lit ?_)
 refine Ad (.string (⟨#[]⟩)) ?_
 simp only[nmA]
 refine Ac (v:=.bool true) (fun W=>Ai rfl rfl rfl (Rp (⟨#[]⟩) _ _ W)) rfl ?_
 simp only[nmA]
 refine Ad (.bool true) ?_
 simp only[nmA]
 refine Ad (.int .i64 1) ?_
 simp only[nmA]
 refine Ac (v:=.bool true) (fun W=>DO W rfl rfl rfl rfl) rfl ?_
 simp only[nmA]
 refine Ad (.bool true) ?_
 simp only[nmA]
 refine Ad (.bool true) ?_
 simp only[nmA]
 refine Aj hM1 (args:=#[]) (v:=.bool true) (rcf (enters_of Tryz.func13 rfl rfl)) (Ht W1) rfl fun W2 hM2=>?_
 simp only[nmA]
 refine Ad (.bool true) ?_
 simp only[nmA]
 refine Ad (.bool true) ?_
 simp only[nmA]
 refine wpList_nil ?_
 ((iterate 4 go_step);refine bodyPost_ret (v:=.bool true) (Br Tryz.results4 rfl) rfl ⟨?_,hM2.below⟩)
 exact rfl
theorem aP (s m:ByteArray) (a:Nat) (hm:decide (300<m.size)=false) (ha:a<256) (L k:Nat) (eL:m.size+1=L) (hL:L≤1000) (hL0:0<L) (ek:a%L=k) (hkm:k≤m.size) (Am Bm:ByteArray) (eA:m.extract 0 k=Am) (eB:m.extract k m.size=Bm) (hs:(s.size != 32)=false) (hAB:Am.data.toList++Bm.data.toList=m.data.toList) (SG PB:ByteArray) (KSg:Hid (∀ (a2:Option Addr) (l2 c2:Nat) (ss2:List (List UInt8)) (w:World),ss2.flatten=m.data.toList→l2=ss2.length→ss2.length≤1000→DJ w a2 ss2→Calls Tryz.prog 14 #[.string s,.slice a2 l2 c2] w fun E w'=>E=.returned (.tuple #[.string SG,.int .i64 0])∧Below w.heap.size w w')) (KRs:Hid (∀ (m':ByteArray) (w:World),m'.data.toList=m.data.toList→Calls Tryz.prog 15 #[.string s,.string m'] w fun E w'=>E=.returned (.string SG)∧Below w.heap.size w w')) (KP:Hid (∀ w,Calls Tryz.prog 7 #[.string s] w fun E w'=>E=.returned (.tuple #[.string PB,.int .i64 0])∧Below w.heap.size w w')) (KV:Hid (∀ (a2:Option Addr) (l2 c2:Nat) (ss2:List (List UInt8)) (w:World),ss2.flatten=m.data.toList→l2=ss2.length→ss2.length≤1000→DJ w a2 ss2→Calls Tryz.prog 16 #[.string PB,.string SG,.slice a2 l2 c2] w fun E w'=>E=.returned (.int .i64 0)∧Below w.heap.size w w')) (w:World):Calls Tryz.prog 4 #[.string s,.string m,.int .u8 (a:Int)] w fun E w'=>E=.returned (.bool true)∧Below w.heap.size w w':=by
 have HMIX:=Lh (show Tryz.prog.follows .mixedOrders=true by kernel_rfl)
 go_enter Tryz.func4,Tryz.ntmps4
 have hM0:=Mem.start w
 (go_step;go_step;refine wp_region_lit ?_)
 refine Ad (.bool false) ?_
 simp only[nmA]
 refine wpList_nil ?_
 ((iterate 4 go_step);refine wp_region_lit ?_)
 refine Ad (.string m) ?_
 simp only[nmA]
 refine Ac (v:=.int .i64 (m.size:Int)) (fun W=>Cs W rfl (by simp[Act.eval]) rfl Tryz.underlying9) rfl ?_
 simp only[nmA]
 refine Ac (v:=.bool false) (fun W=>Ai rfl rfl rfl (Ol m.size 300 false hm _ _ W)) rfl ?_
 simp only[nmA]
 refine wpList_nil ?_
 ((iterate 7 go_step);refine wp_region_lit ?_)
 refine Ad (.int .u8 (a:Int)) ?_
 simp only[nmA]
 refine Ac (v:=.int .i64 (a:Int)) (fun W=>Ip rfl rfl (Tq a ha W)) rfl ?_
 simp only[nmA]
 refine Ad (.string m) ?_
 simp only[nmA]
 refine Ac (v:=.int .i64 (m.size:Int)) (fun W=>Cs W rfl (by simp[Act.eval]) rfl Tryz.underlying9) rfl ?_
 simp only[nmA]
 refine Ac (v:=.int .i64 (L:Int)) (fun W=>Ai rfl rfl rfl (Qf m.size L eL hL _ _ W)) rfl ?_
 simp only[nmA]
 refine Ac (v:=.int .i64 (k:Int)) (fun W=>Ai rfl rfl rfl (TU a L k ek hL0 hL ha _ _ W)) rfl ?_
 simp only[nmA]
 refine Ad (.int .i64 (k:Int)) ?_
 simp only[nmA]
 refine wpList_nil ?_
 ((iterate 3 go_step);refine An 14 HMIX.out (by decide) (by kernel_rfl) (by kernel_rfl) ?_)
 refine Az (.string s) ?_;simp only[nmA]
 refine Az (.string m) ?_;simp only[nmA]
 refine Az (.int .i64 (k:Int)) ?_;simp only[nmA]
 refine As (v:=.string Am) (fun W=>eA ▸ Bp W rfl (by simp[Act.eval]) (DI (j:=k) W Tryz.underlying9 hkm)) rfl rfl ?_;simp only[nmA]
 refine Az (.string m) ?_;simp only[nmA]
 refine Az (.int .i64 (k:Int)) ?_;simp only[nmA]
 refine As (v:=.string Bm) (fun W=>eB ▸ Bp W rfl (by simp[Act.eval]) (EV (i:=k) W Tryz.underlying9 hkm)) rfl rfl ?_;simp only[nmA]
 refine AR (n:=2) (L:=#[.string Am,.string Bm]) (T:=9) (fun W=>At rfl (by simp[Act.eval]) (Uc Am Bm W)) rfl rfl ?_;simp only[List.nil_append,List.cons_append]
 refine Gf 7 30 (args:=fun b=>#[.string s,.slice (some ⟨b,0,none⟩) 2 2]) (v0:=fun b=>.slice (some ⟨b,0,none⟩) 2 2) (v:=.tuple #[.string SG,.int .i64 0]) rfl rfl (fun _=>rfl) (fun b W=>AK W (enters_of Tryz.func14 rfl rfl) rfl (by simp[Act.eval,Act.put])) (fun b W hW h=>KSg.out (some ⟨b,0,none⟩) 2 2 [Am.data.toList,Bm.data.toList] W (by simpa using hAB) rfl (by simp) (Gc [Am,Bm] h)) ?_;simp only[nmA]
 refine Az (.tuple #[.string SG,.int .i64 0]) ?_;simp only[nmA]
 refine Az (.string SG) ?_;simp only[nmA]
 refine Az (.int .i64 0) ?_;simp only[nmA]
 refine Az (.string SG) ?_;simp only[nmA]
 refine Az (.int .i64 0) ?_;simp only[nmA]
 refine AX fun d os=>?_
 refine A6 (t:=30) rfl fun s7=>?_
 refine AF fun hap=>?_
 simp only[nmA] at hap ⊢
 have hM1:=hM0.calls (below_regrown w d os)
 clear hap 
 generalize grow (redrawn w d) os=W1 at hM1 ⊢
 refine wpAny_done (by kernel_rfl) ?_ _
 ((iterate 4 go_step);refine wp_region_lit ?_)
 refine Ad (.string s) ?_
 simp only[nmA]
 refine Ac (v:=.int .i64 (s.size:Int)) (fun W=>Cs W rfl (by simp[Act.eval]) rfl Tryz.underlying9) rfl ?_
 simp only[nmA]
 refine Ac (v:=.bool false) (fun W=>Ai rfl rfl rfl (Kv s.size 32 false hs _ _ W)) rfl ?_
 simp only[nmA]
 refine wpList_nil ?_
 ((iterate 7 go_step);refine wp_region_lit ?_)
 refine Ad (.string s) ?_
 simp only[nmA]
 refine Aj hM1 (args:=#[.string s]) (v:=.tuple #[.string PB,.int .i64 0]) (rcf (enters_of Tryz.func7 rfl rfl)) (KP.out W1) rfl fun W2 hM2=>?_
 simp only[nmA]
 refine Ad (.tuple #[.string PB,.int .i64 0]) ?_
 simp only[nmA]
 refine Ad (.string PB) ?_
 simp only[nmA]
 refine Ad (.int .i64 0) ?_
 simp only[nmA]
 refine Ad (.string PB) ?_
 simp only[nmA]
 refine Ad (.int .i64 0) ?_
 simp only[nmA]
 refine wpList_nil ?_
 ((iterate 3 go_step);refine An 38 HMIX.out (by decide) (by kernel_rfl) (by kernel_rfl) ?_)
 refine Az (.string SG) ?_;simp only[nmA]
 refine Az (.string s) ?_;simp only[nmA]
 refine Az (.string m) ?_;simp only[nmA]
 refine Aq (args:=#[.string s,.string m]) (v:=.string SG) (rcf (enters_of Tryz.func15 rfl rfl)) (fun W _=>(fun W=>KRs.out m W rfl) W) rfl rfl ?_;simp only[nmA]
 refine As (v:=.bool true) (fun W=>Ai rfl rfl rfl (Rp SG _ _ W)) rfl rfl ?_;simp only[nmA]
 refine Az (.bool true) ?_;simp only[nmA]
 refine Az (.int .i64 0) ?_;simp only[nmA]
 refine As (v:=.bool true) (fun W=>DO W rfl rfl rfl rfl) rfl rfl ?_;simp only[nmA]
 refine Az (.bool true) ?_;simp only[nmA]
 refine Az (.bool true) ?_;simp only[nmA]
 refine Az (.int .i64 0) ?_;simp only[nmA]
 refine As (v:=.bool true) (fun W=>DO W rfl rfl rfl rfl) rfl rfl ?_;simp only[nmA]
 refine Az (.bool true) ?_;simp only[nmA]
 refine Az (.bool true) ?_;simp only[nmA]
 refine Az (.string PB) ?_;simp only[nmA]
 refine Az (.string SG) ?_;simp only[nmA]
 refine Az (.string m) ?_;simp only[nmA]
 refine AR (n:=1) (L:=#[.string m]) (T:=9) (fun W=>At rfl (by simp[Act.eval]) (YT m W)) rfl rfl ?_;simp only[List.nil_append,List.cons_append]
 refine Gf 17 68 (args:=fun b=>#[.string PB,.string SG,.slice (some ⟨b,0,none⟩) 1 1]) (v0:=fun b=>.slice (some ⟨b,0,none⟩) 1 1) (v:=.int .i64 0) rfl rfl (fun _=>rfl) (fun b W=>AK W (enters_of Tryz.func16 rfl rfl) rfl (by simp[Act.eval,Act.put])) (fun b W hW h=>KV.out (some ⟨b,0,none⟩) 1 1 [m.data.toList] W (by simp) rfl (by simp) (Gc [m] h)) ?_;simp only[nmA]
 refine As (v:=.bool true) (fun W=>DO W rfl rfl rfl rfl) rfl rfl ?_;simp only[nmA]
 refine Az (.bool true) ?_;simp only[nmA]
 refine Az (.bool true) ?_;simp only[nmA]
 refine Az (.string PB) ?_;simp only[nmA]
 refine Az (.string SG) ?_;simp only[nmA]
 refine Az (.string m) ?_;simp only[nmA]
 refine Az (.int .i64 (k:Int)) ?_;simp only[nmA]
 refine As (v:=.string Am) (fun W=>eA ▸ Bp W rfl (by simp[Act.eval]) (DI (j:=k) W Tryz.underlying9 hkm)) rfl rfl ?_;simp only[nmA]
 refine Az (.string m) ?_;simp only[nmA]
 refine Az (.int .i64 (k:Int)) ?_;simp only[nmA]
 refine As (v:=.string Bm) (fun W=>eB ▸ Bp W rfl (by simp[Act.eval]) (EV (i:=k) W Tryz.underlying9 hkm)) rfl rfl ?_;simp only[nmA]
 refine AR (n:=3) (L:=#[.string (⟨#[]⟩),.string Am,.string Bm]) (T:=9) (fun W=>At rfl (by simp[Act.eval]) (gN (⟨#[]⟩) Am Bm W)) rfl rfl ?_;simp only[List.nil_append,List.cons_append]
 refine Gf 30 81 (args:=fun b=>#[.string PB,.string SG,.slice (some ⟨b,0,none⟩) 3 3]) (v0:=fun b=>.slice (some ⟨b,0,none⟩) 3 3) (v:=.int .i64 0) rfl rfl (fun _=>rfl) (fun b W=>AK W (enters_of Tryz.func16 rfl rfl) rfl (by simp[Act.eval,Act.put])) (fun b W hW h=>KV.out (some ⟨b,0,none⟩) 3 3 [(⟨#[]⟩:ByteArray).data.toList,Am.data.toList,Bm.data.toList] W (by simpa using hAB) rfl (by simp) (Gc [⟨#[]⟩,Am,Bm] h)) ?_;simp only[nmA]
 refine As (v:=.bool true) (fun W=>DO W rfl rfl rfl rfl) rfl rfl ?_;simp only[nmA]
 refine Az (.bool true) ?_;simp only[nmA]
 refine Az (.bool true) ?_;simp only[nmA]
 refine Aq (args:=#[]) (v:=.bool true) (rcf (enters_of Tryz.func13 rfl rfl)) (fun W _=>Ht W) rfl rfl ?_;simp only[nmA]
 refine Az (.bool true) ?_;simp only[nmA]
 refine Az (.bool true) ?_;simp only[nmA]
 refine AX fun d os=>?_
 refine A6 (t:=68) rfl fun s17=>?_
 refine A6 (t:=81) rfl fun s30=>?_
 refine AF fun hap=>?_
 simp only[nmA] at hap ⊢
 have hM3:=hM2.calls (below_regrown W2 d os)
 clear hap 
 generalize grow (redrawn W2 d) os=W3 at hM3 ⊢
 refine wpAny_done (by kernel_rfl) ?_ _
 ((iterate 3 go_step);refine bodyPost_ret (v:=.bool true) (Br Tryz.results4 rfl) rfl ⟨?_,hM3.below⟩)
 exact rfl
theorem edsignSigns_walk (s m:ByteArray) (a0:Int) (w:World) (_:s.size≤maxLen) (_:m.size≤maxLen) (wa:(Lit.int .u8 a0).wf=true):Calls Tryz.prog 4 #[.string s,.string m,.int .u8 a0] w fun e w'=>e=.returned (.bool true)∧Below w.heap.size w w':=by
 obtain⟨a,rfl,ha⟩:=fI a0 wa
 by_cases hm:300<m.size
 ·exact aq s m a (decide_eq_true hm) w
 ·have hkm:a%(m.size+1)≤m.size:=by
    have:=Nat.mod_lt a (by omega:0<m.size+1)
    omega
  by_cases hs:s.size=32
  ·obtain⟨_,PB,_,SG,_,_,_,_,_,_,_,_,_,_,KSg,KRs,KP,KV⟩:=YZ s hs m.data.toList (by simp;omega)
   refine aP s m a (decide_eq_false hm) ha _ _ rfl (by omega) (by omega) rfl hkm _ _ rfl rfl (by rw[hs];rfl) ?_ SG PB KSg KRs KP KV w
   rw[DM,DM,List.drop_zero]
   have hl:m.data.toList.length=m.size:=by simp
   rw[List.take_of_length_le (by rw[List.length_drop,hl];omega) (l:=m.data.toList.drop _)]
   exact List.take_append_drop _ _
  ·exact bo s m a (decide_eq_false hm) ha _ _ rfl (by omega) (by omega) rfl hkm _ _ rfl rfl hs (by rw[bne_iff_ne];exact hs) w
end Go.Proofs.YtnaldciakclccaaGreat
