/- host.isWord (layer 27). -/
import Derived.Test.YtdnkpclpcelbaaaDoorHosI
import Derived.Test.YtdnkpclpcelbaaaDoorHosD
import Derived.Test.YtdnkpclpcelbaaaDoorHosE
namespace Go.Proofs.YtdnkpclpcelbaaaDoor
set_option maxRecDepth 20000
set_option linter.unusedSimpArgs false
set_option linter.unusedVariables false
open Go.RowKit Go.Lib Go.Shelf Go.Sort
attribute [local go_sem] Oper.semAt_some
theorem splitSeq_any (s sep : ByteArray) (w : World) : Calls Tryd.prog 64 #[.string s, .string sep] w fun e w' =>
    e = .returned (.func (.func 98) #[] #[.pointer (some ⟨w.heap.size + 1, 0, none⟩), .pointer (some ⟨w.heap.size, 0, none⟩), .pointer (some ⟨w.heap.size + 2, 0, none⟩)]) ∧
    w' = ((w.alloc (.cells #[.string s] 9)).alloc (.cells #[.string sep] 9)).alloc (.cells #[.int .i64 0] 3) := by
  have h1 : Calls Tryd.prog 84 #[.string s, .string sep, .int .i64 0] w fun e w' =>
    e = .returned (.func (.func 98) #[] #[.pointer (some ⟨w.heap.size + 1, 0, none⟩), .pointer (some ⟨w.heap.size, 0, none⟩), .pointer (some ⟨w.heap.size + 2, 0, none⟩)]) ∧
    w' = ((w.alloc (.cells #[.string s] 9)).alloc (.cells #[.string sep] 9)).alloc (.cells #[.int .i64 0] 3) := by
    go_enter Tryd.func84, Tryd.ntmps84
    go_wp2_with fail
    go_ret
    exact ⟨rfl, rfl⟩
  go_enter Tryd.func64, Tryd.ntmps64
  go_wp2_with fail
  refine h1.mono ?_
  rintro e w' ⟨rfl, rfl⟩
  go_wp2_with fail
  go_ret
  exact ⟨rfl, rfl⟩
def digL (P : List UInt8) : Bool := P.all fun c => isD c.toNat
def labL (P : List UInt8) : Bool := P.all fun c => lab c.toNat
/-- A label that may stand in a word name. -/
def goodL (P : List UInt8) : Bool := !P.isEmpty && (decide (P.length ≤ 63) && (labL P && ((P.getD 0 0).toNat != 45 && (P.getD (P.length - 1) 0).toNat != 45)))
def nDig (L : List (List UInt8)) : Nat := (L.filter digL).length
def wordB (l : List UInt8) : Bool := (prt 46 [] l).all goodL && !(prt 46 [] l).all digL
theorem nDig_le (L : List (List UInt8)) : nDig L ≤ L.length := List.length_filter_le _ _
theorem nDig_all (L : List (List UInt8)) : decide (nDig L < L.length) = !L.all digL := by
  induction L with
  | nil => rfl
  | cons x L ih =>
    unfold nDig at *
    have h := nDig_le L
    unfold nDig at h
    cases hx : digL x with
    | true =>
      simp only [List.filter_cons, hx, if_true, List.length_cons, List.all_cons, Bool.true_and]
      rw [← ih]
      simp
    | false =>
      simp only [List.filter_cons, hx, List.length_cons, List.all_cons, Bool.false_and, Bool.not_false]
      simp
      omega
abbrev ArT : TypeId := 94
abbrev FnT : TypeId := 61
theorem al_Ar (W : World) : (Instr.alloc ArT true (.tuple #[])).run Tryd.prog W = .ok (.pointer (some ⟨W.heap.size, 0, none⟩)) (W.alloc (.cells #[.int .i64 0, .int .i64 0] ArT (0, 0))) := by kernel_rfl
theorem al_HB (W : World) : (Instr.alloc 4 true (.tuple #[])).run Tryd.prog W = .ok (.pointer (some ⟨W.heap.size, 0, none⟩)) (W.alloc (.cells #[.bool false] 4 (0, 0))) := by kernel_rfl
theorem al_Fn (W : World) : (Instr.alloc FnT true (.tuple #[])).run Tryd.prog W = .ok (.pointer (some ⟨W.heap.size, 0, none⟩)) (W.alloc (.cells #[.nilFunc] FnT (0, 0))) := by kernel_rfl
theorem cellHB : CellTy Tryd.prog 4 := ⟨⟨_, Tryd.underlying4, rfl⟩, by kernel_rfl⟩
theorem mixH : Tryd.prog.follows .mixedOrders = true := by kernel_rfl
abbrev fnLab (b : Nat) : Value := .func (.func 63) #[] #[.pointer (some ⟨b, 0, none⟩)]
theorem mem_setother {w0 w : World} {M : List Blk} {b : Nat} {cs : Array Value} (h : Mem w0 M w) (hb : w0.heap.size ≤ b) (hn : ∀ p ∈ M, p.1 ≠ b) : Mem w0 M (w.setRow b cs) :=
  mem_grown (row := some b) h ⟨rfl, rfl, rfl, by simp, fun k _ hk => setRow_other _ _ _ _ (fun e => hk (by rw [e]))⟩ fun g e => by
    cases e
    exact ⟨hb, hn⟩
theorem regionL_atH {P : Program} {Q : Exit → Act → World → Prop} {l n id : Nat} {a : Act} {w : World} {ls : List Oper} (A1 : Act) (W1 : World) (hp : ls.all notDefer = true) (h : wpList P ls.toArray (fun e A W' => e = .normal ∧ A = A1 ∧ W' = W1) ls a w) (hQ : Q .normal A1 W1) : (Code.region id ls.toArray false).wpIn (Fence.wide.inRound l) n P Q a w :=
  regionL_inRound (fun A W' => A = A1 ∧ W' = W1) hp h (by rintro A W' ⟨rfl, rfl⟩; exact hQ)
theorem hresB {P : Program} {w : World} {fn : Func} {tmps : Array Value} {v1 : Value} {a1 t1 b1 : Nat} (h : fn.results = #[.cell a1 t1]) (h1 : tmps.getD a1 undef = .pointer (some ⟨b1, 0, none⟩)) (l1 : (loadVar t1 ⟨b1, 0, none⟩).run P w = .ok v1 w) : (results fn tmps).run P w = .ok v1 w := by
  have g1 : tmps[a1]?.getD undef = .pointer (some ⟨b1, 0, none⟩) := by simpa using h1
  simp [results, h, g1, asAddr, l1]
theorem prt_mem (c : UInt8) : ∀ (l acc : List UInt8) (x : List UInt8), x ∈ prt c acc l → x.length ≤ acc.length + l.length
  | [], acc, x, h => by
    rw [prt_nil, List.mem_singleton] at h
    rw [h]
    simp
  | y :: r, acc, x, h => by
    rw [prt_cons] at h
    split at h
    · rcases List.mem_cons.1 h with rfl | h
      · simp
      · have := prt_mem c r [] x h
        simp at this ⊢
        omega
    · have := prt_mem c r _ x h
      simp at this ⊢
      omega
theorem ba_at (x : List UInt8) (i : Nat) (h : i < x.length) : ∃ d : UInt8, (⟨x.toArray⟩ : ByteArray)[i]? = some d ∧ d = x.getD i 0 := by
  refine ⟨x[i], ?_, ?_⟩
  · have hz : i < (⟨x.toArray⟩ : ByteArray).size := by rw [ba_size]; exact h
    rw [getElem?_pos _ i hz]
    rfl
  · rw [List.getD_eq_getElem?_getD, List.getElem?_eq_getElem h]
    rfl
theorem ix_Ar0 (b : Nat) (W : World) : (Instr.indexAt ArT (.pointer (some ⟨b, 0, none⟩)) (.int .i64 0)).run Tryd.prog W = .ok (.pointer (some ⟨b, 0, none⟩)) W := by go_simp
theorem ix_Ar1 (b : Nat) (W : World) : (Instr.indexAt ArT (.pointer (some ⟨b, 0, none⟩)) (.int .i64 1)).run Tryd.prog W = .ok (.pointer (some ⟨b, 1, none⟩)) W := by go_simp
theorem lss_nat (x y : Nat) (z : Bool) (o1 o2 : Operand) (h : decide (x < y) = z) (W : World) : (do eqGuard .lss 3 o1 o2 (.int .i64 (x : Int)) (.int .i64 (y : Int)); binOp .lss 3 (.int .i64 (x : Int)) (.int .i64 (y : Int)) : Sem Value).run Tryd.prog W = .ok (.bool z) W := by
  subst h
  by_cases c : x < y
  · have c1 : (x : Int) < (y : Int) := by omega
    rw [decide_eq_true c]
    go_simp
  · have c1 : ¬ (x : Int) < (y : Int) := by omega
    rw [decide_eq_false c]
    go_simp
theorem run_store_off {P : Program} {w : World} {o : Oper} {A : Act} {ty : TypeId} {x y : Operand} {b off : Nat} {t : TypeId} {cs cs' : Array Value} {v : Value} (hg : w.heap[b]? = some (.cells cs t (0, 0))) (ho : o.op = .store ty x y) (hx : A.eval x = .pointer (some ⟨b, off, none⟩)) (hy : A.eval y = v) (hl : off < cs.size) (hc : cs.setIfInBounds off v = cs') (hT : CellTy P ty) (h1 : v.oneCell' = true) : (execOp A.eval o).run P w = .ok .skip (w.setRow b cs') := by
  subst hc
  unfold execOp
  simp only [ho, hx, hy, Instr.storeAt, Instr.sureAddr, Sem.run_bind, Sem.run_pure, Result.andThen_ok, run_store_at hg hl hT h1]
set_option maxRecDepth 100000 in
set_option maxHeartbeats 16000000 in
theorem isWord_any (l : List UInt8) (hl : l.length ≤ 1000) (w : World) :
    Calls Tryd.prog 33 #[.string ⟨l.toArray⟩] w fun e w' => e = .returned (.bool (wordB l)) ∧ Below w.heap.size w w' := by
  obtain ⟨S, eS⟩ : ∃ S : ByteArray, (⟨l.toArray⟩ : ByteArray) = S := ⟨_, rfl⟩
  rw [eS]
  have HES := Lib.hid eS
  clear eS
  refine (callsIn_wide (n := 3)).1 (callsIn_of_wp_marks Tryd.func33 rfl trivial (wpIn_wide.2 ?_) rfl)
  simp only [Tryd.ntmps33, List.size_toArray, List.length_cons, List.length_nil, Nat.reduceAdd, Nat.reduceSub, Array.replicate_succ, Array.replicate_zero, List.push_toArray, List.append_toArray, List.nil_append, List.cons_append]
  have hM0 := Mem.start w
  go_upto_region 0 with fail
  refine wp_region_lit ?_
  refine wl_new hM0 (f := fun b => .pointer (some ⟨b, 0, none⟩)) (fun W => run_alloc_of rfl (al_HB W)) rfl fun br W1 hM1 => ?_
  simp only [nm0, nm1, nm2, nm3]
  refine wpList_nil ?_
  go_upto_region 1 with fail
  refine wp_region_lit ?_
  refine wl_new hM1 (f := fun b => .pointer (some ⟨b, 0, none⟩)) (fun W => run_alloc_of rfl (al_Fn W)) rfl fun b3 W2 hM2 => ?_
  simp only [nm0, nm1, nm2, nm3]
  refine lw_skipW (run_store_one (v := fnDig) (hM2.get 0 rfl) rfl rfl rfl cellF rfl) rfl rfl ?_
  have hM3 := hM2.set (cs := #[fnDig]) 0 rfl
  refine wpList_nil ?_
  obtain ⟨W3, hW3⟩ : ∃ W3, W2.setRow b3 #[fnDig] = W3 := ⟨_, rfl⟩
  rw [hW3] at hM3 ⊢
  go_upto_region 2 with fail
  refine wp_region_lit ?_
  refine wl_pure (v := fnLab b3) (fun W => run_makeFunc_of rfl (by simp [Instr.makeFunc, Act.eval])) rfl ?_
  simp only [nm0, nm1, nm2, nm3]
  refine wl_new hM3 (f := fun b => .pointer (some ⟨b, 0, none⟩)) (fun W => run_alloc_of rfl (al_Fn W)) rfl fun b4 W4 hM4 => ?_
  simp only [nm0, nm1, nm2, nm3]
  refine lw_skipW (run_store_one (v := fnLab b3) (hM4.get 0 rfl) rfl rfl rfl cellF rfl) rfl rfl ?_
  have hM5 := hM4.set (cs := #[fnLab b3]) 0 rfl
  refine wpList_nil ?_
  obtain ⟨W5, hW5⟩ : ∃ W5, W4.setRow b4 #[fnLab b3] = W5 := ⟨_, rfl⟩
  rw [hW5] at hM5 ⊢
  go_upto_region 3 with fail
  refine wp_region_lit ?_
  refine wl_new hM5 (f := fun b => .pointer (some ⟨b, 0, none⟩)) (fun W => run_alloc_of rfl (al_Ar W)) rfl fun b5 W6 hM6 => ?_
  simp only [nm0, nm1, nm2, nm3]
  refine wpList_nil ?_
  simp only [nm2, nm3] at hM6
  clear hM0 hM1 hM2 hM3 hM4 hM5 hW3 hW5
  go_upto_region 4 with fail
  refine wp_region_lit ?_
  refine wl_pure (v := .string S) (fun W => rfl) rfl ?_
  simp only [nm0, nm1, nm2, nm3]
  refine wl_callE (args := #[.string S, .string ⟨#[46]⟩]) (fun W => run_call_fn W (enters_of Tryd.func64 (by kernel_rfl) rfl) rfl (by simp [Act.eval])) (splitSeq_any S ⟨#[46]⟩ W6) rfl ?_
  rintro e W7 ⟨rfl, hW7⟩
  refine ⟨_, rfl, ?_⟩
  have hN7 := (((Mem.start W6).new1 (.cells #[.string S] 9)).new1 (.cells #[.string ⟨#[46]⟩] 9)).new1 (.cells #[.int .i64 0] 3)
  rw [← hW7] at hN7
  obtain ⟨Bs, hBs⟩ : ∃ Bs, W6.heap.size = Bs := ⟨_, rfl⟩
  simp only [World.size_alloc] at hN7
  rw [hBs] at hN7 ⊢
  clear hW7
  simp only [nm0, nm1, nm2, nm3]
  refine wpList_nil ?_
  go_wp2_with fail
  refine (wpIn_wide (n := 3)).1 ?_
  obtain ⟨D, hD⟩ : ∃ D, W7.heap.size = D := ⟨_, rfl⟩
  have l5 := hM6.lt (List.mem_of_getElem? (i := 0) rfl)
  have l4 := hM6.lt (List.mem_of_getElem? (i := 1) rfl)
  have l3 := hM6.lt (List.mem_of_getElem? (i := 2) rfl)
  have lr := hM6.lt (List.mem_of_getElem? (i := 3) rfl)
  have uBs := hN7.lt (List.mem_of_getElem? (i := 2) rfl)
  have uB2 := hN7.lt (List.mem_of_getElem? (i := 0) rfl)
  simp only at l5 l4 l3 lr uBs uB2
  rw [hD] at uBs uB2
  rw [hBs] at l5 l4 l3 lr
  have hz6 := hM6.below.size
  rw [hBs] at hz6
  have hM7 := hM6.calls hN7.below
  have hwD : w.heap.size ≤ D := by omega
  obtain ⟨MM, hMM⟩ : ∃ MM : Nat → Nat → List Blk, MM = fun n d => [(b5, .cells #[.int .i64 (n : Int), .int .i64 (d : Int)] ArT (0, 0)), (b4, .cells #[fnLab b3] FnT (0, 0)), (b3, .cells #[fnDig] FnT (0, 0)), (br, .cells #[.bool false] 4 (0, 0))] := ⟨_, rfl⟩
  have hMc : ∀ n d, ∀ p ∈ MM n d, p.2.isCells = true := fun n d p hp => by
    rw [hMM] at hp
    simp only [List.mem_cons, List.not_mem_nil, or_false] at hp
    rcases hp with rfl | rfl | rfl | rfl <;> rfl
  have hMl : ∀ n d, ∀ p ∈ MM n d, p.1 < Bs := fun n d p hp => by
    rw [hMM] at hp
    simp only [List.mem_cons, List.not_mem_nil, or_false] at hp
    rcases hp with rfl | rfl | rfl | rfl <;> assumption
  have hM70 : Mem w (MM 0 0) W7 := by rw [hMM]; exact hM7
  have hBs7 := hN7.get 2 rfl
  rw [← HES.out] at hBs7
  refine wpIn_range_z rfl (by omega) (gf := 98) (lb := #[.pointer (some ⟨Bs + 1, 0, none⟩), .pointer (some ⟨Bs, 0, none⟩), .pointer (some ⟨Bs + 2, 0, none⟩)]) rfl trivial (enters_of Tryd.func98 (by kernel_rfl) rfl)
    (split1_x (3 - 1) (by omega) 46 l (by omega) Bs (Bs + 1) (Bs + 2) (fun k => k ≠ b5 ∧ k ≠ D + 1) W7 hBs7 (hN7.get 1 rfl) (hN7.get 0 rfl) ⟨by omega, by omega⟩ ⟨by omega, by omega⟩ ⟨by omega, by omega⟩ (by omega) (by omega)) (by omega) kpF_t ?hkb (Below.refl _ _) (fun _ => rfl)
    (fun pre V => (∀ y ∈ pre, goodL y = true) ∧ Mem w (MM pre.length (nDig pre)) V)
    (fun cd xs V => cd = .ret ∧ (∃ pre x, xs = pre ++ [x] ∧ goodL x = false) ∧ ∃ n d, Mem w (MM n d) V)
    ?hI ?hIx ?hInv ?h0 ?hIs
    (fun x a' V => a' = { tmps := #[.string S, undef, .pointer (some ⟨br, 0, none⟩), .pointer (some ⟨b3, 0, none⟩), .pointer (some ⟨b4, 0, none⟩), .pointer (some ⟨b5, 0, none⟩), .string ⟨x.toArray⟩, fnLab b3, .string S, .func (.func 98) #[] #[.pointer (some ⟨Bs + 1, 0, none⟩), .pointer (some ⟨Bs, 0, none⟩), .pointer (some ⟨Bs + 2, 0, none⟩)], .string ⟨x.toArray⟩, undef, undef, undef, undef, undef, undef, undef, undef, undef, undef, undef, undef, undef, undef, undef, undef, undef, undef, undef, undef, undef, undef, undef, undef, undef, undef, undef, undef, undef, undef, undef, undef, undef, undef, undef, undef, undef, undef, undef, undef, undef, undef], defers := [] }) ?hAx ?assign ?body ?done ?stop
  case hkb =>
    rw [hD]
    intro V r r' h
    exact ⟨by simp [World.putObj], fun k ob hk hf => ⟨(World.putObj_heap_other hf.2).trans hk, hf⟩⟩
  case hI =>
    rw [hD]
    rintro pre A B row ⟨h1, hm⟩ hg hr
    exact ⟨h1, mem_own hm (hMc _ _) hwD hg hr⟩
  case hIx =>
    rw [hD]
    rintro cd xs A B row ⟨h1, h2, n, d, hm⟩ hg hr
    exact ⟨h1, h2, n, d, mem_own hm (hMc _ _) hwD hg hr⟩
  case hInv =>
    intro pre V hm hz
    trivial
  case h0 => exact ⟨fun y hy => (by cases hy), hM70⟩
  case hIs =>
    rintro pre V v ⟨h1, hm⟩
    exact ⟨h1, mem_setother hm hz6 fun p hp => by have := hMl _ _ p hp; omega⟩
  case hAx =>
    rw [hD]
    rintro x a' u A B row h1 hg hr
    exact h1
  case assign =>
    intro l2 pre x V K hI hx hgo
    rw [hD] at hgo
    refine wpIn_fr (t' := #[.string S, undef, .pointer (some ⟨br, 0, none⟩), .pointer (some ⟨b3, 0, none⟩), .pointer (some ⟨b4, 0, none⟩), .pointer (some ⟨b5, 0, none⟩), undef, fnLab b3, .string S, .func (.func 98) #[] #[.pointer (some ⟨Bs + 1, 0, none⟩), .pointer (some ⟨Bs, 0, none⟩), .pointer (some ⟨Bs + 2, 0, none⟩)], .string ⟨x.toArray⟩, undef, undef, undef, undef, undef, undef, undef, undef, undef, undef, undef, undef, undef, undef, undef, undef, undef, undef, undef, undef, undef, undef, undef, undef, undef, undef, undef, undef, undef, undef, undef, undef, undef, undef, undef, undef, undef, undef, undef, undef, undef, undef]) (by simp) ?_
    refine wpIn_region_lit ?_
    refine wi_val (v := .string ⟨x.toArray⟩) (fun _ => trivial) (by simp) rfl rfl ?_
    refine wpListIn_nil ?_
    exact hgo _ _ (below_keeps (Below.refl _ _) _) ⟨Nat.le_refl _, fun k ob hk hf => ⟨hk, hf⟩⟩ hI rfl
  case body =>
    rw [hD]
    rintro l2 pre x a' V hl1 hloop ⟨hgo, hI⟩ rfl hx
    have hxm : x ∈ prt 46 [] l := hx.subset (by simp)
    have hxl := prt_mem 46 l [] x hxm
    simp only [List.length_nil, Nat.zero_add] at hxl
    have hpl : pre.length ≤ 1001 := by
      have h1 := prt_len 46 l []
      have := hx.length_le
      simp only [List.length_append, List.length_cons, List.length_nil] at this
      omega
    have hnd := nDig_le pre
    rw [hMM] at hI
    have v4 := hI.get 1 rfl
    have v3 := hI.get 2 rfl
    refine wpIn_block ?_
    refine wpIn_seq_k fun K2 hK2 => ?_
    refine wpIn_seq_k fun K3 hK3 => ?_
    by_cases c1 : x = []
    · subst c1
      have HG := Lib.hid (show goodL [] = false from rfl)
      apply regionL_atH _ V (by kernel_rfl) ?run1 ?rest1
      case run1 =>
        refine wl_pure (v := .string ⟨#[]⟩) (fun W => rfl) rfl ?_
        simp only [nm0, nm1, nm2, nm3]
        refine wl_pure (v := .bool true) (fun W => run_bin_of rfl rfl rfl (by go_simp)) rfl ?_
        simp only [nm0, nm1, nm2, nm3]
        refine wl_pure (v := .bool true) (fun W => rfl) rfl ?_
        simp only [nm0, nm1, nm2, nm3]
        refine lw_skip rfl ?_
        simp only [nm0, nm1, nm2, nm3]
        refine lw_skip rfl ?_
        simp only [nm0, nm1, nm2, nm3]
        refine lw_skip rfl ?_
        simp only [nm0, nm1, nm2, nm3]
        refine wl_pure (v := .bool true) (fun W => rfl) rfl ?_
        simp only [nm0, nm1, nm2, nm3]
        refine wl_pure (v := .bool true) (fun W => rfl) rfl ?_
        simp only [nm0, nm1, nm2, nm3]
        refine lw_skip rfl ?_
        simp only [nm0, nm1, nm2, nm3]
        refine lw_skip rfl ?_
        simp only [nm0, nm1, nm2, nm3]
        refine lw_skip rfl ?_
        simp only [nm0, nm1, nm2, nm3]
        refine lw_skip rfl ?_
        simp only [nm0, nm1, nm2, nm3]
        refine wl_pure (v := .bool true) (fun W => rfl) rfl ?_
        simp only [nm0, nm1, nm2, nm3]
        refine wl_pure (v := .bool true) (fun W => rfl) rfl ?_
        simp only [nm0, nm1, nm2, nm3]
        refine lw_skip rfl ?_
        simp only [nm0, nm1, nm2, nm3]
        refine lw_skip rfl ?_
        simp only [nm0, nm1, nm2, nm3]
        refine lw_skip rfl ?_
        simp only [nm0, nm1, nm2, nm3]
        refine wl_pure (v := .bool true) (fun W => rfl) rfl ?_
        simp only [nm0, nm1, nm2, nm3]
        refine wl_pure (v := .bool true) (fun W => rfl) rfl ?_
        simp only [nm0, nm1, nm2, nm3]
        refine lw_skip rfl ?_
        simp only [nm0, nm1, nm2, nm3]
        refine lw_skip rfl ?_
        simp only [nm0, nm1, nm2, nm3]
        refine lw_skip rfl ?_
        simp only [nm0, nm1, nm2, nm3]
        refine lw_skip rfl ?_
        simp only [nm0, nm1, nm2, nm3]
        refine lw_skip rfl ?_
        simp only [nm0, nm1, nm2, nm3]
        refine lw_skip rfl ?_
        simp only [nm0, nm1, nm2, nm3]
        refine wl_pure (v := .bool true) (fun W => rfl) rfl ?_
        simp only [nm0, nm1, nm2, nm3]
        exact wpList_nil ⟨rfl, rfl, rfl⟩
      case rest1 =>
        refine hK3 _ _ ?_
        refine wpIn_cond_true rfl ?_
        refine wpIn_seq_k fun K6 hK6 => ?_
        refine wpIn_region_lit ?_
        refine wi_skip (fun _ => trivial) (by simp) (run_store_one (v := .bool false) (hI.get 3 rfl) rfl rfl rfl cellHB rfl) rfl rfl ?_
        have hI2 := hI.set (cs := #[.bool false]) 3 rfl
        refine wpListIn_nil (hK6 _ _ ?_)
        refine wpIn_ret ?_
        exact ⟨setRow_keeps _ _ _ _ (by omega), rfl, ⟨pre, _, rfl, HG.out⟩, pre.length, nDig pre, by rw [hMM]; exact hI2⟩
    have hne := txt_ne x c1
    have hzx := ba_size x
    have hp0 : 0 < x.length := List.length_pos_iff.2 c1
    obtain ⟨X, eX⟩ : ∃ X : ByteArray, (⟨x.toArray⟩ : ByteArray) = X := ⟨_, rfl⟩
    rw [eX] at hne hzx ⊢
    by_cases c2 : 63 < x.length
    · have q2 : (63 : Int) < (X.size : Int) := by omega
      have HG := Lib.hid (show goodL x = false by unfold goodL; rw [decide_eq_false (show ¬ x.length ≤ 63 by omega)]; simp)
      clear hzx
      apply regionL_atH _ V (by kernel_rfl) ?run2 ?rest2
      case run2 =>
        refine wl_pure (v := .string X) (fun W => rfl) rfl ?_
        simp only [nm0, nm1, nm2, nm3]
        refine wl_pure (v := .bool false) (fun W => run_bin_of rfl rfl rfl (by go_simp)) rfl ?_
        simp only [nm0, nm1, nm2, nm3]
        refine wl_pure (v := .bool false) (fun W => rfl) rfl ?_
        simp only [nm0, nm1, nm2, nm3]
        refine wl_pure (v := .string X) (fun W => rfl) rfl ?_
        simp only [nm0, nm1, nm2, nm3]
        refine wl_pure (v := .int .i64 (X.size : Int)) (fun W => by go_simp) rfl ?_
        simp only [nm0, nm1, nm2, nm3]
        refine wl_pure (v := .bool true) (fun W => run_bin_of rfl rfl rfl (by go_simp)) rfl ?_
        simp only [nm0, nm1, nm2, nm3]
        refine wl_pure (v := .bool true) (fun W => rfl) rfl ?_
        simp only [nm0, nm1, nm2, nm3]
        refine wl_pure (v := .bool true) (fun W => rfl) rfl ?_
        simp only [nm0, nm1, nm2, nm3]
        refine lw_skip rfl ?_
        simp only [nm0, nm1, nm2, nm3]
        refine lw_skip rfl ?_
        simp only [nm0, nm1, nm2, nm3]
        refine lw_skip rfl ?_
        simp only [nm0, nm1, nm2, nm3]
        refine lw_skip rfl ?_
        simp only [nm0, nm1, nm2, nm3]
        refine wl_pure (v := .bool true) (fun W => rfl) rfl ?_
        simp only [nm0, nm1, nm2, nm3]
        refine wl_pure (v := .bool true) (fun W => rfl) rfl ?_
        simp only [nm0, nm1, nm2, nm3]
        refine lw_skip rfl ?_
        simp only [nm0, nm1, nm2, nm3]
        refine lw_skip rfl ?_
        simp only [nm0, nm1, nm2, nm3]
        refine lw_skip rfl ?_
        simp only [nm0, nm1, nm2, nm3]
        refine wl_pure (v := .bool true) (fun W => rfl) rfl ?_
        simp only [nm0, nm1, nm2, nm3]
        refine wl_pure (v := .bool true) (fun W => rfl) rfl ?_
        simp only [nm0, nm1, nm2, nm3]
        refine lw_skip rfl ?_
        simp only [nm0, nm1, nm2, nm3]
        refine lw_skip rfl ?_
        simp only [nm0, nm1, nm2, nm3]
        refine lw_skip rfl ?_
        simp only [nm0, nm1, nm2, nm3]
        refine lw_skip rfl ?_
        simp only [nm0, nm1, nm2, nm3]
        refine lw_skip rfl ?_
        simp only [nm0, nm1, nm2, nm3]
        refine lw_skip rfl ?_
        simp only [nm0, nm1, nm2, nm3]
        refine wl_pure (v := .bool true) (fun W => rfl) rfl ?_
        simp only [nm0, nm1, nm2, nm3]
        exact wpList_nil ⟨rfl, rfl, rfl⟩
      case rest2 =>
        refine hK3 _ _ ?_
        refine wpIn_cond_true rfl ?_
        refine wpIn_seq_k fun K6 hK6 => ?_
        refine wpIn_region_lit ?_
        refine wi_skip (fun _ => trivial) (by simp) (run_store_one (v := .bool false) (hI.get 3 rfl) rfl rfl rfl cellHB rfl) rfl rfl ?_
        have hI2 := hI.set (cs := #[.bool false]) 3 rfl
        refine wpListIn_nil (hK6 _ _ ?_)
        refine wpIn_ret ?_
        exact ⟨setRow_keeps _ _ _ _ (by omega), rfl, ⟨pre, _, rfl, HG.out⟩, pre.length, nDig pre, by rw [hMM]; exact hI2⟩
    have q2 : ¬ (63 : Int) < (X.size : Int) := by omega
    have KJ : Calls Tryd.prog 65 #[.string X, fnLab b3] V fun e w' => e = .returned (.bool (labL x)) ∧ V = w' := by
      have h := just_any X 63 #[.pointer (some ⟨b3, 0, none⟩)] lab V (by omega) (enters_of Tryd.func63 (by kernel_rfl) rfl) (fun c hc => labf_any c b3 V v3)
      rw [← eX, show allG lab (⟨x.toArray⟩ : ByteArray) = labL x from rfl, eX] at h
      exact h
    by_cases c3 : labL x = false
    · rw [c3] at KJ
      have HG := Lib.hid (show goodL x = false by unfold goodL; rw [c3]; simp)
      clear hzx
      apply regionL_atH _ V (by kernel_rfl) ?run3 ?rest3
      case run3 =>
        refine wl_pure (v := .string X) (fun W => rfl) rfl ?_
        simp only [nm0, nm1, nm2, nm3]
        refine wl_pure (v := .bool false) (fun W => run_bin_of rfl rfl rfl (by go_simp)) rfl ?_
        simp only [nm0, nm1, nm2, nm3]
        refine wl_pure (v := .bool false) (fun W => rfl) rfl ?_
        simp only [nm0, nm1, nm2, nm3]
        refine wl_pure (v := .string X) (fun W => rfl) rfl ?_
        simp only [nm0, nm1, nm2, nm3]
        refine wl_pure (v := .int .i64 (X.size : Int)) (fun W => by go_simp) rfl ?_
        simp only [nm0, nm1, nm2, nm3]
        refine wl_pure (v := .bool false) (fun W => run_bin_of rfl rfl rfl (by go_simp)) rfl ?_
        simp only [nm0, nm1, nm2, nm3]
        refine wl_pure (v := .bool false) (fun W => rfl) rfl ?_
        simp only [nm0, nm1, nm2, nm3]
        refine wl_pure (v := .bool false) (fun W => rfl) rfl ?_
        simp only [nm0, nm1, nm2, nm3]
        refine wl_pure (v := .string X) (fun W => rfl) rfl ?_
        simp only [nm0, nm1, nm2, nm3]
        refine lw_valW (v := fnLab b3) (run_load_cell rfl rfl v4 rfl cellF) rfl ?_
        simp only [nm0, nm1, nm2, nm3]
        refine wl_callE (args := #[.string X, fnLab b3]) (fun W => run_call_fn W (enters_of Tryd.func65 (by kernel_rfl) rfl) rfl (by simp [Act.eval])) KJ rfl ?_
        rintro e V' ⟨rfl, rfl⟩
        refine ⟨_, rfl, ?_⟩
        simp only [nm0, nm1, nm2, nm3]
        refine wl_pure (v := .bool true) (fun W => by go_simp) rfl ?_
        simp only [nm0, nm1, nm2, nm3]
        refine wl_pure (v := .bool true) (fun W => rfl) rfl ?_
        simp only [nm0, nm1, nm2, nm3]
        refine wl_pure (v := .bool true) (fun W => rfl) rfl ?_
        simp only [nm0, nm1, nm2, nm3]
        refine lw_skip rfl ?_
        simp only [nm0, nm1, nm2, nm3]
        refine lw_skip rfl ?_
        simp only [nm0, nm1, nm2, nm3]
        refine lw_skip rfl ?_
        simp only [nm0, nm1, nm2, nm3]
        refine wl_pure (v := .bool true) (fun W => rfl) rfl ?_
        simp only [nm0, nm1, nm2, nm3]
        refine wl_pure (v := .bool true) (fun W => rfl) rfl ?_
        simp only [nm0, nm1, nm2, nm3]
        refine lw_skip rfl ?_
        simp only [nm0, nm1, nm2, nm3]
        refine lw_skip rfl ?_
        simp only [nm0, nm1, nm2, nm3]
        refine lw_skip rfl ?_
        simp only [nm0, nm1, nm2, nm3]
        refine lw_skip rfl ?_
        simp only [nm0, nm1, nm2, nm3]
        refine lw_skip rfl ?_
        simp only [nm0, nm1, nm2, nm3]
        refine lw_skip rfl ?_
        simp only [nm0, nm1, nm2, nm3]
        refine wl_pure (v := .bool true) (fun W => rfl) rfl ?_
        simp only [nm0, nm1, nm2, nm3]
        exact wpList_nil ⟨rfl, rfl, rfl⟩
      case rest3 =>
        refine hK3 _ _ ?_
        refine wpIn_cond_true rfl ?_
        refine wpIn_seq_k fun K6 hK6 => ?_
        refine wpIn_region_lit ?_
        refine wi_skip (fun _ => trivial) (by simp) (run_store_one (v := .bool false) (hI.get 3 rfl) rfl rfl rfl cellHB rfl) rfl rfl ?_
        have hI2 := hI.set (cs := #[.bool false]) 3 rfl
        refine wpListIn_nil (hK6 _ _ ?_)
        refine wpIn_ret ?_
        exact ⟨setRow_keeps _ _ _ _ (by omega), rfl, ⟨pre, _, rfl, HG.out⟩, pre.length, nDig pre, by rw [hMM]; exact hI2⟩
    have c3' : labL x = true := by simpa using c3
    rw [c3'] at KJ
    obtain ⟨d0, hd0, ed0⟩ : ∃ d0 : UInt8, X[0]? = some d0 ∧ d0 = x.getD 0 0 := by rw [← eX]; exact ba_at x 0 hp0
    obtain ⟨d1, hd1, ed1⟩ : ∃ d1 : UInt8, X[X.size - 1]? = some d1 ∧ d1 = x.getD (x.length - 1) 0 := by rw [hzx, ← eX]; exact ba_at x (x.length - 1) (by omega)
    have w1 : IntKind.i64.wrap ((X.size : Int) - 1) = ((X.size - 1 : Nat) : Int) := by rw [show ((X.size - 1 : Nat) : Int) = (X.size : Int) - 1 by omega]; exact IntWalk.i64_in _ (by omega)
    have HG0 := Lib.hid (show goodL x = (d0.toNat != 45 && d1.toNat != 45) by unfold goodL; rw [← ed0, ← ed1, c3', decide_eq_true (show x.length ≤ 63 by omega)]; simp [c1])
    clear ed0 ed1
    by_cases c4 : d0.toNat = 45
    · have q4 : ((d0.toNat : Int) == 45) = true := by simp; omega
      have HG := Lib.hid (show goodL x = false by rw [HG0.out, c4]; simp)
      clear hzx w1
      apply regionL_atH _ V (by kernel_rfl) ?run4 ?rest4
      case run4 =>
        refine wl_pure (v := .string X) (fun W => rfl) rfl ?_
        simp only [nm0, nm1, nm2, nm3]
        refine wl_pure (v := .bool false) (fun W => run_bin_of rfl rfl rfl (by go_simp)) rfl ?_
        simp only [nm0, nm1, nm2, nm3]
        refine wl_pure (v := .bool false) (fun W => rfl) rfl ?_
        simp only [nm0, nm1, nm2, nm3]
        refine wl_pure (v := .string X) (fun W => rfl) rfl ?_
        simp only [nm0, nm1, nm2, nm3]
        refine wl_pure (v := .int .i64 (X.size : Int)) (fun W => by go_simp) rfl ?_
        simp only [nm0, nm1, nm2, nm3]
        refine wl_pure (v := .bool false) (fun W => run_bin_of rfl rfl rfl (by go_simp)) rfl ?_
        simp only [nm0, nm1, nm2, nm3]
        refine wl_pure (v := .bool false) (fun W => rfl) rfl ?_
        simp only [nm0, nm1, nm2, nm3]
        refine wl_pure (v := .bool false) (fun W => rfl) rfl ?_
        simp only [nm0, nm1, nm2, nm3]
        refine wl_pure (v := .string X) (fun W => rfl) rfl ?_
        simp only [nm0, nm1, nm2, nm3]
        refine lw_valW (v := fnLab b3) (run_load_cell rfl rfl v4 rfl cellF) rfl ?_
        simp only [nm0, nm1, nm2, nm3]
        refine wl_callE (args := #[.string X, fnLab b3]) (fun W => run_call_fn W (enters_of Tryd.func65 (by kernel_rfl) rfl) rfl (by simp [Act.eval])) KJ rfl ?_
        rintro e V' ⟨rfl, rfl⟩
        refine ⟨_, rfl, ?_⟩
        simp only [nm0, nm1, nm2, nm3]
        refine wl_pure (v := .bool false) (fun W => by go_simp) rfl ?_
        simp only [nm0, nm1, nm2, nm3]
        refine wl_pure (v := .bool false) (fun W => rfl) rfl ?_
        simp only [nm0, nm1, nm2, nm3]
        refine wl_pure (v := .bool false) (fun W => rfl) rfl ?_
        simp only [nm0, nm1, nm2, nm3]
        refine wl_pure (v := .string X) (fun W => rfl) rfl ?_
        simp only [nm0, nm1, nm2, nm3]
        refine wl_pure (v := .int .u8 (d0.toNat : Int)) (fun W => run_idx_str (i := 0) (c := d0) W rfl rfl rfl Tryd.underlying9 hd0) rfl ?_
        simp only [nm0, nm1, nm2, nm3]
        refine wl_pure (v := .bool true) (fun W => run_bin_of rfl rfl rfl (by go_simp)) rfl ?_
        simp only [nm0, nm1, nm2, nm3]
        refine wl_pure (v := .bool true) (fun W => rfl) rfl ?_
        simp only [nm0, nm1, nm2, nm3]
        refine wl_pure (v := .bool true) (fun W => rfl) rfl ?_
        simp only [nm0, nm1, nm2, nm3]
        refine lw_skip rfl ?_
        simp only [nm0, nm1, nm2, nm3]
        refine lw_skip rfl ?_
        simp only [nm0, nm1, nm2, nm3]
        refine lw_skip rfl ?_
        simp only [nm0, nm1, nm2, nm3]
        refine lw_skip rfl ?_
        simp only [nm0, nm1, nm2, nm3]
        refine lw_skip rfl ?_
        simp only [nm0, nm1, nm2, nm3]
        refine lw_skip rfl ?_
        simp only [nm0, nm1, nm2, nm3]
        refine wl_pure (v := .bool true) (fun W => rfl) rfl ?_
        simp only [nm0, nm1, nm2, nm3]
        exact wpList_nil ⟨rfl, rfl, rfl⟩
      case rest4 =>
        refine hK3 _ _ ?_
        refine wpIn_cond_true rfl ?_
        refine wpIn_seq_k fun K6 hK6 => ?_
        refine wpIn_region_lit ?_
        refine wi_skip (fun _ => trivial) (by simp) (run_store_one (v := .bool false) (hI.get 3 rfl) rfl rfl rfl cellHB rfl) rfl rfl ?_
        have hI2 := hI.set (cs := #[.bool false]) 3 rfl
        refine wpListIn_nil (hK6 _ _ ?_)
        refine wpIn_ret ?_
        exact ⟨setRow_keeps _ _ _ _ (by omega), rfl, ⟨pre, _, rfl, HG.out⟩, pre.length, nDig pre, by rw [hMM]; exact hI2⟩
    have q4 : ((d0.toNat : Int) == 45) = false := by simp; omega
    have q4' : ¬ (d0.toNat : Int) = 45 := by omega
    by_cases c5 : d1.toNat = 45
    · have q5 : ((d1.toNat : Int) == 45) = true := by simp; omega
      have HG := Lib.hid (show goodL x = false by rw [HG0.out, c5]; simp)
      clear hzx
      apply regionL_atH _ V (by kernel_rfl) ?run5 ?rest5
      case run5 =>
        refine wl_pure (v := .string X) (fun W => rfl) rfl ?_
        simp only [nm0, nm1, nm2, nm3]
        refine wl_pure (v := .bool false) (fun W => run_bin_of rfl rfl rfl (by go_simp)) rfl ?_
        simp only [nm0, nm1, nm2, nm3]
        refine wl_pure (v := .bool false) (fun W => rfl) rfl ?_
        simp only [nm0, nm1, nm2, nm3]
        refine wl_pure (v := .string X) (fun W => rfl) rfl ?_
        simp only [nm0, nm1, nm2, nm3]
        refine wl_pure (v := .int .i64 (X.size : Int)) (fun W => by go_simp) rfl ?_
        simp only [nm0, nm1, nm2, nm3]
        refine wl_pure (v := .bool false) (fun W => run_bin_of rfl rfl rfl (by go_simp)) rfl ?_
        simp only [nm0, nm1, nm2, nm3]
        refine wl_pure (v := .bool false) (fun W => rfl) rfl ?_
        simp only [nm0, nm1, nm2, nm3]
        refine wl_pure (v := .bool false) (fun W => rfl) rfl ?_
        simp only [nm0, nm1, nm2, nm3]
        refine wl_pure (v := .string X) (fun W => rfl) rfl ?_
        simp only [nm0, nm1, nm2, nm3]
        refine lw_valW (v := fnLab b3) (run_load_cell rfl rfl v4 rfl cellF) rfl ?_
        simp only [nm0, nm1, nm2, nm3]
        refine wl_callE (args := #[.string X, fnLab b3]) (fun W => run_call_fn W (enters_of Tryd.func65 (by kernel_rfl) rfl) rfl (by simp [Act.eval])) KJ rfl ?_
        rintro e V' ⟨rfl, rfl⟩
        refine ⟨_, rfl, ?_⟩
        simp only [nm0, nm1, nm2, nm3]
        refine wl_pure (v := .bool false) (fun W => by go_simp) rfl ?_
        simp only [nm0, nm1, nm2, nm3]
        refine wl_pure (v := .bool false) (fun W => rfl) rfl ?_
        simp only [nm0, nm1, nm2, nm3]
        refine wl_pure (v := .bool false) (fun W => rfl) rfl ?_
        simp only [nm0, nm1, nm2, nm3]
        refine wl_pure (v := .string X) (fun W => rfl) rfl ?_
        simp only [nm0, nm1, nm2, nm3]
        refine wl_pure (v := .int .u8 (d0.toNat : Int)) (fun W => run_idx_str (i := 0) (c := d0) W rfl rfl rfl Tryd.underlying9 hd0) rfl ?_
        simp only [nm0, nm1, nm2, nm3]
        refine wl_pure (v := .bool false) (fun W => run_bin_of rfl rfl rfl (by go_simp)) rfl ?_
        simp only [nm0, nm1, nm2, nm3]
        refine wl_pure (v := .bool false) (fun W => rfl) rfl ?_
        simp only [nm0, nm1, nm2, nm3]
        refine wl_pure (v := .bool false) (fun W => rfl) rfl ?_
        simp only [nm0, nm1, nm2, nm3]
        refine wl_pure (v := .string X) (fun W => rfl) rfl ?_
        simp only [nm0, nm1, nm2, nm3]
        refine wl_pure (v := .string X) (fun W => rfl) rfl ?_
        simp only [nm0, nm1, nm2, nm3]
        refine wl_pure (v := .int .i64 (X.size : Int)) (fun W => by go_simp) rfl ?_
        simp only [nm0, nm1, nm2, nm3]
        refine wl_pure (v := .int .i64 ((X.size - 1 : Nat) : Int)) (fun W => run_bin_of rfl rfl rfl (by go_simp)) rfl ?_
        simp only [nm0, nm1, nm2, nm3]
        refine wl_pure (v := .int .u8 (d1.toNat : Int)) (fun W => run_idx_str (i := X.size - 1) (c := d1) W rfl rfl rfl Tryd.underlying9 hd1) rfl ?_
        simp only [nm0, nm1, nm2, nm3]
        refine wl_pure (v := .bool true) (fun W => run_bin_of rfl rfl rfl (by go_simp)) rfl ?_
        simp only [nm0, nm1, nm2, nm3]
        refine wl_pure (v := .bool true) (fun W => rfl) rfl ?_
        simp only [nm0, nm1, nm2, nm3]
        exact wpList_nil ⟨rfl, rfl, rfl⟩
      case rest5 =>
        refine hK3 _ _ ?_
        refine wpIn_cond_true rfl ?_
        refine wpIn_seq_k fun K6 hK6 => ?_
        refine wpIn_region_lit ?_
        refine wi_skip (fun _ => trivial) (by simp) (run_store_one (v := .bool false) (hI.get 3 rfl) rfl rfl rfl cellHB rfl) rfl rfl ?_
        have hI2 := hI.set (cs := #[.bool false]) 3 rfl
        refine wpListIn_nil (hK6 _ _ ?_)
        refine wpIn_ret ?_
        exact ⟨setRow_keeps _ _ _ _ (by omega), rfl, ⟨pre, _, rfl, HG.out⟩, pre.length, nDig pre, by rw [hMM]; exact hI2⟩
    have q5 : ((d1.toNat : Int) == 45) = false := by simp; omega
    have q5' : ¬ (d1.toNat : Int) = 45 := by omega
    have HG := Lib.hid (show goodL x = true by rw [HG0.out]; simp [c4, c5])
    have HZX := Lib.hid (show X.size ≤ 140737488355328 by omega)
    clear hzx
    apply regionL_atH _ V (by kernel_rfl) ?run0 ?rest0
    case run0 =>
      refine wl_pure (v := .string X) (fun W => rfl) rfl ?_
      simp only [nm0, nm1, nm2, nm3]
      refine wl_pure (v := .bool false) (fun W => run_bin_of rfl rfl rfl (by go_simp)) rfl ?_
      simp only [nm0, nm1, nm2, nm3]
      refine wl_pure (v := .bool false) (fun W => rfl) rfl ?_
      simp only [nm0, nm1, nm2, nm3]
      refine wl_pure (v := .string X) (fun W => rfl) rfl ?_
      simp only [nm0, nm1, nm2, nm3]
      refine wl_pure (v := .int .i64 (X.size : Int)) (fun W => by go_simp) rfl ?_
      simp only [nm0, nm1, nm2, nm3]
      refine wl_pure (v := .bool false) (fun W => run_bin_of rfl rfl rfl (by go_simp)) rfl ?_
      simp only [nm0, nm1, nm2, nm3]
      refine wl_pure (v := .bool false) (fun W => rfl) rfl ?_
      simp only [nm0, nm1, nm2, nm3]
      refine wl_pure (v := .bool false) (fun W => rfl) rfl ?_
      simp only [nm0, nm1, nm2, nm3]
      refine wl_pure (v := .string X) (fun W => rfl) rfl ?_
      simp only [nm0, nm1, nm2, nm3]
      refine lw_valW (v := fnLab b3) (run_load_cell rfl rfl v4 rfl cellF) rfl ?_
      simp only [nm0, nm1, nm2, nm3]
      refine wl_callE (args := #[.string X, fnLab b3]) (fun W => run_call_fn W (enters_of Tryd.func65 (by kernel_rfl) rfl) rfl (by simp [Act.eval])) KJ rfl ?_
      rintro e V' ⟨rfl, rfl⟩
      refine ⟨_, rfl, ?_⟩
      simp only [nm0, nm1, nm2, nm3]
      refine wl_pure (v := .bool false) (fun W => by go_simp) rfl ?_
      simp only [nm0, nm1, nm2, nm3]
      refine wl_pure (v := .bool false) (fun W => rfl) rfl ?_
      simp only [nm0, nm1, nm2, nm3]
      refine wl_pure (v := .bool false) (fun W => rfl) rfl ?_
      simp only [nm0, nm1, nm2, nm3]
      refine wl_pure (v := .string X) (fun W => rfl) rfl ?_
      simp only [nm0, nm1, nm2, nm3]
      refine wl_pure (v := .int .u8 (d0.toNat : Int)) (fun W => run_idx_str (i := 0) (c := d0) W rfl rfl rfl Tryd.underlying9 hd0) rfl ?_
      simp only [nm0, nm1, nm2, nm3]
      refine wl_pure (v := .bool false) (fun W => run_bin_of rfl rfl rfl (by go_simp)) rfl ?_
      simp only [nm0, nm1, nm2, nm3]
      refine wl_pure (v := .bool false) (fun W => rfl) rfl ?_
      simp only [nm0, nm1, nm2, nm3]
      refine wl_pure (v := .bool false) (fun W => rfl) rfl ?_
      simp only [nm0, nm1, nm2, nm3]
      refine wl_pure (v := .string X) (fun W => rfl) rfl ?_
      simp only [nm0, nm1, nm2, nm3]
      refine wl_pure (v := .string X) (fun W => rfl) rfl ?_
      simp only [nm0, nm1, nm2, nm3]
      refine wl_pure (v := .int .i64 (X.size : Int)) (fun W => by go_simp) rfl ?_
      simp only [nm0, nm1, nm2, nm3]
      refine wl_pure (v := .int .i64 ((X.size - 1 : Nat) : Int)) (fun W => run_bin_of rfl rfl rfl (by go_simp)) rfl ?_
      simp only [nm0, nm1, nm2, nm3]
      refine wl_pure (v := .int .u8 (d1.toNat : Int)) (fun W => run_idx_str (i := X.size - 1) (c := d1) W rfl rfl rfl Tryd.underlying9 hd1) rfl ?_
      simp only [nm0, nm1, nm2, nm3]
      refine wl_pure (v := .bool false) (fun W => run_bin_of rfl rfl rfl (by go_simp)) rfl ?_
      simp only [nm0, nm1, nm2, nm3]
      refine wl_pure (v := .bool false) (fun W => rfl) rfl ?_
      simp only [nm0, nm1, nm2, nm3]
      exact wpList_nil ⟨rfl, rfl, rfl⟩
    case rest0 =>
      clear w1 hd0 hd1 q4 q5 q4' q5' KJ
      refine hK3 _ _ ?_
      refine wpIn_cond_false rfl ?_
      refine wpIn_skip ?_
      refine hK2 _ _ ?_
      refine wpIn_seq_k fun K4 hK4 => ?_
      have w2 : IntKind.i64.wrap ((pre.length : Int) + 1) = ((pre.length + 1 : Nat) : Int) := by rw [show ((pre.length + 1 : Nat) : Int) = (pre.length : Int) + 1 by omega]; exact IntWalk.i64_in _ (by omega)
      have w3 : IntKind.i64.wrap ((nDig pre : Int) + 1) = ((nDig pre + 1 : Nat) : Int) := by rw [show ((nDig pre + 1 : Nat) : Int) = (nDig pre : Int) + 1 by omega]; exact IntWalk.i64_in _ (by omega)
      obtain ⟨n, hn⟩ : ∃ n, pre.length = n := ⟨_, rfl⟩
      obtain ⟨d, hd⟩ : ∃ d, nDig pre = d := ⟨_, rfl⟩
      rw [hn] at w2 hI
      rw [hd] at w3 hI
      refine wpIn_region_lit ?_
      refine wi_val (v := .pointer (some ⟨b5, 0, none⟩)) (fun _ => trivial) (by simp) (run_index_of rfl rfl rfl (ix_Ar0 b5 _)) rfl ?_
      refine wi_val (v := .int .i64 (n : Int)) (fun _ => trivial) (by simp) (run_load_cell rfl rfl (hI.get 0 rfl) rfl cellHI) rfl ?_
      refine wi_val (w' := V) (v := .int .i64 ((n + 1 : Nat) : Int)) (fun _ => trivial) (by simp) (run_bin_of rfl rfl rfl (by go_simp)) rfl ?_
      refine wi_val (v := .pointer (some ⟨b5, 0, none⟩)) (fun _ => trivial) (by simp) (run_index_of rfl rfl rfl (ix_Ar0 b5 _)) rfl ?_
      refine wi_skip (fun _ => trivial) (by simp) (run_store_off (off := 0) (cs' := #[.int .i64 ((n + 1 : Nat) : Int), .int .i64 (d : Int)]) (hI.get 0 rfl) rfl rfl rfl (by show 0 < 2; decide) rfl cellHI rfl) rfl rfl ?_
      have hI1 := hI.set (cs := #[.int .i64 ((n + 1 : Nat) : Int), .int .i64 (d : Int)]) 0 rfl
      have k1 := setRow_keeps V b5 D #[.int .i64 ((n + 1 : Nat) : Int), .int .i64 (d : Int)] (by omega)
      have f1 : KpF (fun _ k => k ≠ b5 ∧ k ≠ D + 1) V (V.setRow b5 #[.int .i64 ((n + 1 : Nat) : Int), .int .i64 (d : Int)]) := ⟨by simp, fun k ob hk hf => ⟨by rw [setRow_other _ _ _ _ hf.1]; exact hk, hf⟩⟩
      refine wpListIn_nil (hK4 _ _ ?_)
      obtain ⟨V1, hV1⟩ : ∃ V1, V.setRow b5 #[.int .i64 ((n + 1 : Nat) : Int), .int .i64 (d : Int)] = V1 := ⟨_, rfl⟩
      rw [hV1] at hI1 k1 f1 ⊢
      have KD : Calls Tryd.prog 65 #[.string X, fnDig] V1 fun e w' => e = .returned (.bool (digL x)) ∧ V1 = w' := by
        have h := just_any X 62 #[] isD V1 HZX.out (enters_of Tryd.func62 (by kernel_rfl) rfl) (fun c hc => wDig_any c V1)
        rw [← eX, show allG isD (⟨x.toArray⟩ : ByteArray) = digL x from rfl, eX] at h
        exact h
      refine wpIn_seq_k fun K5 hK5 => ?_
      obtain ⟨z, ez⟩ : ∃ z, digL x = z := ⟨_, rfl⟩
      rw [ez] at KD
      apply regionL_atH _ V1 (by kernel_rfl) ?runD ?restD
      case runD =>
        refine wl_pure (v := .string X) (fun W => rfl) rfl ?_
        simp only [nm0, nm1, nm2, nm3]
        refine lw_valW (v := fnDig) (run_load_cell rfl rfl (hI1.get 2 rfl) rfl cellF) rfl ?_
        simp only [nm0, nm1, nm2, nm3]
        refine wl_callE (args := #[.string X, fnDig]) (fun W => run_call_fn W (enters_of Tryd.func65 (by kernel_rfl) rfl) rfl (by simp [Act.eval])) KD rfl ?_
        rintro e V' ⟨rfl, rfl⟩
        refine ⟨_, rfl, ?_⟩
        simp only [nm0, nm1, nm2, nm3]
        exact wpList_nil ⟨rfl, rfl, rfl⟩
      case restD =>
        refine hK5 _ _ ?_
        have hgo2 : ∀ y ∈ pre ++ [x], goodL y = true := fun y hy => by
          rcases List.mem_append.1 hy with h | h
          · exact hgo y h
          · rw [List.mem_singleton.1 h]; exact HG.out
        have hlen2 : (pre ++ [x]).length = n + 1 := by simp [hn]
        cases z with
        | false =>
          have hd2 : nDig (pre ++ [x]) = d := by unfold nDig at hd ⊢; simp [ez, hd]
          refine wpIn_cond_false rfl ?_
          refine wpIn_skip ?_
          refine ⟨k1, f1, hgo2, ?_⟩
          rw [hlen2, hd2, hMM]
          exact hI1
        | true =>
          have hd2 : nDig (pre ++ [x]) = d + 1 := by unfold nDig at hd ⊢; simp [ez, hd]
          refine wpIn_cond_true rfl ?_
          refine wpIn_region_lit ?_
          refine wi_val (v := .pointer (some ⟨b5, 1, none⟩)) (fun _ => trivial) (by simp) (run_index_of rfl rfl rfl (ix_Ar1 b5 _)) rfl ?_
          refine wi_val (v := .int .i64 (d : Int)) (fun _ => trivial) (by simp) (run_load_cell rfl rfl (hI1.get 0 rfl) rfl cellHI) rfl ?_
          refine wi_val (w' := V1) (v := .int .i64 ((d + 1 : Nat) : Int)) (fun _ => trivial) (by simp) (run_bin_of rfl rfl rfl (by go_simp)) rfl ?_
          refine wi_val (v := .pointer (some ⟨b5, 1, none⟩)) (fun _ => trivial) (by simp) (run_index_of rfl rfl rfl (ix_Ar1 b5 _)) rfl ?_
          refine wi_skip (fun _ => trivial) (by simp) (run_store_off (off := 1) (cs' := #[.int .i64 ((n + 1 : Nat) : Int), .int .i64 ((d + 1 : Nat) : Int)]) (hI1.get 0 rfl) rfl rfl rfl (by show 1 < 2; decide) rfl cellHI rfl) rfl rfl ?_
          have hI2 := hI1.set (cs := #[.int .i64 ((n + 1 : Nat) : Int), .int .i64 ((d + 1 : Nat) : Int)]) 0 rfl
          refine wpListIn_nil ?_
          refine ⟨k1.trans (setRow_keeps _ _ _ _ (by omega)), kpF_t f1 ⟨by simp, fun k ob hk hf => ⟨by rw [setRow_other _ _ _ _ hf.1]; exact hk, hf⟩⟩, hgo2, ?_⟩
          rw [hlen2, hd2, hMM]
          exact hI2
  case done =>
    rintro D' V hD' ⟨hgo, hV⟩ hK
    rw [hD] at hD'
    have hWd : decide (nDig (prt 46 [] l) < (prt 46 [] l).length) = wordB l := by
      unfold wordB
      rw [nDig_all, List.all_eq_true.2 hgo]
      rfl
    rw [hMM] at hV
    obtain ⟨n, hn⟩ : ∃ n, (prt 46 [] l).length = n := ⟨_, rfl⟩
    obtain ⟨d, hd⟩ : ∃ d, nDig (prt 46 [] l) = d := ⟨_, rfl⟩
    rw [hn, hd] at hV hWd
    clear hn hd
    go_upto_region 11 with fail
    refine wp_region_lit ?_
    refine wl_pure (v := .pointer (some ⟨b5, 1, none⟩)) (fun W => run_index_of rfl rfl rfl (ix_Ar1 b5 _)) rfl ?_
    simp only [nm0, nm1, nm2, nm3]
    refine lw_valW (v := .int .i64 (d : Int)) (run_load_cell rfl rfl (hV.get 0 rfl) rfl cellHI) rfl ?_
    simp only [nm0, nm1, nm2, nm3]
    refine wl_pure (v := .pointer (some ⟨b5, 0, none⟩)) (fun W => run_index_of rfl rfl rfl (ix_Ar0 b5 _)) rfl ?_
    simp only [nm0, nm1, nm2, nm3]
    refine lw_valW (v := .int .i64 (n : Int)) (run_load_cell rfl rfl (hV.get 0 rfl) rfl cellHI) rfl ?_
    simp only [nm0, nm1, nm2, nm3]
    refine wl_pure (v := .bool (wordB l)) (fun W => run_bin_of rfl rfl rfl (lss_nat d n _ _ _ hWd W)) rfl ?_
    simp only [nm0, nm1, nm2, nm3]
    refine lw_skipW (run_store_one (v := .bool (wordB l)) (hV.get 3 rfl) rfl rfl rfl cellHB rfl) rfl rfl ?_
    have hVa := hV.set (cs := #[.bool (wordB l)]) 3 rfl
    simp only [nm2, nm3] at hVa
    refine wpList_nil ?_
    have hKa : (V.setRow br #[.bool (wordB l)]).heap[D']? = some (.deferred (some [])) := by rw [setRow_other _ _ _ _ (by omega)]; exact hK
    obtain ⟨Va, eVa⟩ : ∃ Va, V.setRow br #[.bool (wordB l)] = Va := ⟨_, rfl⟩
    rw [eVa] at hVa hKa ⊢
    clear eVa
    go_wp2_with fail
    refine ⟨by simp, .inl ⟨_, _, rfl, run_takeDeferred hKa, ?_⟩⟩
    have hpo := grownBy_putObj' Va D' (.deferred none)
    have hMb := mem_own hVa (D := D) (fun p hp => by
      simp only [List.mem_cons, List.not_mem_nil, or_false] at hp
      rcases hp with rfl | rfl | rfl | rfl <;> rfl) hwD hpo fun r e => by cases e; exact ⟨hD', _, hKa, rfl⟩
    exact ⟨.bool (wordB l), hresB rfl rfl (load_cell (hMb.get 3 rfl) rfl cellHB), rfl, hMb.below⟩
  case stop =>
    rw [hD]
    rintro D' c pre x V hD' hx ⟨rfl, ⟨pre2, y, e2, hy⟩, n, d, hMa⟩ hKa
    have hym : y ∈ prt 46 [] l := hx.subset (by rw [e2]; simp)
    have hWf : wordB l = false := by
      unfold wordB
      rw [show (prt 46 [] l).all goodL = false by
        cases h : (prt 46 [] l).all goodL with
        | false => rfl
        | true => rw [List.all_eq_true.1 h y hym] at hy; cases hy]
      rfl
    rw [hMM] at hMa
    refine wpIn_ret ?_
    refine ⟨by simp, .inl ⟨_, _, rfl, run_takeDeferred hKa, ?_⟩⟩
    have hpo := grownBy_putObj' V D' (.deferred none)
    have hMb := mem_own hMa (D := D) (fun p hp => by
      simp only [List.mem_cons, List.not_mem_nil, or_false] at hp
      rcases hp with rfl | rfl | rfl | rfl <;> rfl) hwD hpo fun r e => by cases e; exact ⟨hD', _, hKa, rfl⟩
    exact ⟨.bool false, hresB rfl rfl (load_cell (hMb.get 3 rfl) rfl cellHB), by rw [hWf], hMb.below⟩
end Go.Proofs.YtdnkpclpcelbaaaDoor
