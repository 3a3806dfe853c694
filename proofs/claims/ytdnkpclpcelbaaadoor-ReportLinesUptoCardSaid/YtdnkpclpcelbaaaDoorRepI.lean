/- ReportLines (layer 49), up to the range. -/
import Derived.Test.YtdnkpclpcelbaaaDoorRepG
import Derived.Test.YtdnkpclpcelbaaaDoorRepH
namespace Go.Proofs.YtdnkpclpcelbaaaDoor
set_option maxRecDepth 20000
set_option linter.unusedSimpArgs false
set_option linter.unusedVariables false
open Go.RowKit Go.Lib Go.Shelf Go.Sort
attribute [local go_sem] Oper.semAt_some
/-- All that the law puts together. -/
def totL (L : List (List UInt8)) : Nat → List UInt8
  | 0 => lineL L
  | k + 1 => totL L k ++ L.getD k []
theorem totL_len (L : List (List UInt8)) (hs : ∀ i, (L.getD i []).length ≤ 10000000) (hL : L.length ≤ 50) : ∀ k, k ≤ 50 → (totL L k).length ≤ 1000000000 + k * 10000000
  | 0, _ => by
    have h1 := accL_len L 10000000 (by omega) hs L.length
    have h2 : L.length * (10000000 + 1) ≤ 50 * (10000000 + 1) := Nat.mul_le_mul_right _ hL
    show (accL L L.length ++ [10]).length ≤ _
    simp only [List.length_append, List.length_cons, List.length_nil]
    omega
  | k + 1, hk => by
    have h1 := totL_len L hs hL k (by omega)
    have h2 := hs k
    show (totL L k ++ L.getD k []).length ≤ _
    rw [List.length_append]
    omega
theorem rresB {P : Program} {w : World} {fn : Func} {tmps : Array Value} {v1 : Value} {a1 t1 b1 : Nat} (h : fn.results = #[.cell a1 t1]) (h1 : tmps.getD a1 undef = .pointer (some ⟨b1, 0, none⟩)) (l1 : (loadVar t1 ⟨b1, 0, none⟩).run P w = .ok v1 w) : (results fn tmps).run P w = .ok v1 w := by
  have g1 : tmps[a1]?.getD undef = .pointer (some ⟨b1, 0, none⟩) := by simpa using h1
  simp [results, h, g1, asAddr, l1]
theorem mixR : Tryd.prog.follows .mixedOrders = true := by kernel_rfl
theorem rowVer : RowTy Tryd.prog VerT 3 := ⟨.inl ⟨_, Tryd.underlying48⟩, by kernel_rfl⟩
theorem bx_ver (a b c : Value) (h1 : a.oneCell' = true) (h2 : b.oneCell' = true) (h3 : c.oneCell' = true) (W : World) : (Instr.box VerT (.agg #[a, b, c])).run Tryd.prog W = .ok (.pointer (some ⟨W.heap.size, 0, none⟩)) (W.alloc (.cells #[a, b, c] VerT (0, 0))) := by go_simp
theorem rbx_int (z : Int) (W : World) : (Instr.box 3 (.int .i64 z)).run Tryd.prog W = .ok (.pointer (some ⟨W.heap.size, 0, none⟩)) (W.alloc (.cells #[.int .i64 z] 3 (0, 0))) := by go_simp
theorem ral_Bool (W : World) : (Instr.alloc 4 true (.tuple #[])).run Tryd.prog W = .ok (.pointer (some ⟨W.heap.size, 0, none⟩)) (W.alloc (.cells #[.bool false] 4 (0, 0))) := by kernel_rfl
theorem ral_Int (W : World) : (Instr.alloc 3 true (.tuple #[])).run Tryd.prog W = .ok (.pointer (some ⟨W.heap.size, 0, none⟩)) (W.alloc (.cells #[.int .i64 0] 3 (0, 0))) := by kernel_rfl
abbrev SlS : TypeId := 46
theorem ral_Sl (W : World) : (Instr.alloc SlS true (.tuple #[])).run Tryd.prog W = .ok (.pointer (some ⟨W.heap.size, 0, none⟩)) (W.alloc (.cells #[.slice none 0 0] SlS (0, 0))) := by kernel_rfl
theorem cellRB : CellTy Tryd.prog 4 := ⟨⟨_, Tryd.underlying4, rfl⟩, by kernel_rfl⟩
theorem cellRI : CellTy Tryd.prog 3 := ⟨⟨_, Tryd.underlying3, rfl⟩, by kernel_rfl⟩
theorem cellRL : CellTy Tryd.prog SlS := ⟨⟨_, Tryd.underlying46, rfl⟩, by kernel_rfl⟩
theorem rowns_slice {w : World} {D n : Nat} {v : Value} {xs : List Value} (h : w.ownsRow D StT 1 v n xs) (hn : 0 < n) : ∃ g cap, v = .slice (some ⟨g, 0, none⟩) n cap ∧ D ≤ g ∧ g < w.heap.size ∧ ∃ cur : Array Value, w.heap[g]? = some (.cells cur StT (0, 0)) ∧ cur.toList.take (n * 1) = xs := by
  obtain ⟨hl, h⟩ := h
  rcases h with h | ⟨g, cap, cur, h1, h2, h3, h4, h5, h6, h7⟩
  · have : n = 0 := by
      first
        | exact h.2
        | exact h.1
        | (obtain ⟨-, h⟩ := h; exact h)
    omega
  · exact ⟨g, cap, h1, h2, (Array.getElem?_eq_some_iff.1 h3).1, cur, h3, h7⟩
theorem rowns_form {w : World} {D n : Nat} {v : Value} {xs : List Value} (h : w.ownsRow D StT 1 v n xs) : ∃ a c, v = .slice a n c := by
  by_cases hn : 0 < n
  · obtain ⟨g, cap, hv, -⟩ := rowns_slice h hn
    exact ⟨_, _, hv⟩
  · have h0 : n = 0 := by omega
    obtain ⟨-, h⟩ := h
    rcases h with h | ⟨g, cap, cur, hv, -⟩
    · refine ⟨none, 0, ?_⟩
      rw [h0]
      first | exact h.1 | exact h.2
    · exact ⟨_, _, hv⟩
theorem regionL_at {P : Program} {Q : Exit → Act → World → Prop} {l n id : Nat} {a : Act} {w : World} {ls : List Oper} (A1 : Act) (W1 : World) (hp : ls.all notDefer = true) (h : wpList P ls.toArray (fun e A W' => e = .normal ∧ A = A1 ∧ W' = W1) ls a w) (hQ : Q .normal A1 W1) : (Code.region id ls.toArray false).wpIn (Fence.wide.inRound l) n P Q a w :=
  regionL_inRound (fun A W' => A = A1 ∧ W' = W1) hp h (by rintro A W' ⟨rfl, rfl⟩; exact hQ)
theorem row_str {cur : Array Value} {xs : List (List UInt8)} {k : Nat} {X : List UInt8} (h : cur.toList.take (xs.length * 1) = stV (bsL xs)) (hk : xs[k]? = some X) : cur[k]? = some (.string ⟨X.toArray⟩) := by
  have hlt : k < xs.length := (List.getElem?_eq_some_iff.1 hk).1
  have h2 : (cur.toList.take (xs.length * 1))[k]? = some (.string ⟨X.toArray⟩) := by rw [h]; simp [hk]
  rw [List.getElem?_take_of_lt (by omega)] at h2
  simpa using h2
theorem ix_Str (b n c k : Nat) (hk : k < n) (W : World) : (Instr.indexAt SlS (.slice (some ⟨b, 0, none⟩) n c) (.int .i64 (k : Int))).run Tryd.prog W = .ok (.pointer (some ⟨b, k, none⟩)) W := by
  have h1 : (k : Int) < (n : Int) := by omega
  have h2 : (k : Int).toNat = k := by omega
  go_simp
set_option maxRecDepth 100000 in
set_option maxHeartbeats 16000000 in
theorem reportLines_w (v0 : Value) (L : List (List UInt8)) (I : List UInt8) (red : Bool) (E most : Int) (w : World) (h : TxS w v0 L) (hs : ∀ i, (L.getD i []).length ≤ 10000000) (hI : I.length ≤ 10000000) (h0 : -9223372036854775808 ≤ E) (h1 : E ≤ 9223372036854775807) (hT : Tab w) (m : Int) (hm : w.cell? ⟨gMax, 0, none⟩ = some (.int .i64 m)) :
    Calls Tryd.prog 6 #[v0, .agg #[.string ⟨I.toArray⟩, .bool red, .int .i64 E], .int .i64 most] w fun e w' => e = .returned (.bool true) ∧ Below w.heap.size w w' := by
  have KL := Lib.hid (fun w hT => replives_any w hT)
  have KV := Lib.hid (fun w hT => verdict_any I red E w h0 h1 hI hT)
  have KVR := Lib.hid (fun w => rverdict_any I red E w h0 h1 hI)
  have hTx := h
  obtain ⟨a, cap, e, hc⟩ := h
  subst e
  obtain ⟨S, eS⟩ : ∃ S : ByteArray, (⟨I.toArray⟩ : ByteArray) = S := ⟨_, rfl⟩
  rw [eS] at KV KVR ⊢
  obtain ⟨RV, eRV⟩ : ∃ R : ByteArray, (⟨(lineL (verdW I red E)).toArray⟩ : ByteArray) = R := ⟨_, rfl⟩
  rw [eRV] at KV KVR
  clear eS eRV hI h0 h1
  have HTX := Lib.hid hTx
  have HC := Lib.hid hc
  have HS := Lib.hid hs
  have HM := Lib.hid hm
  clear hTx hc hs hm
  refine (callsIn_wide (n := 4)).1 (callsIn_of_wp_marks Tryd.func6 rfl trivial (wpIn_wide.2 ?_) rfl)
  simp only [Tryd.ntmps6, List.size_toArray, List.length_cons, List.length_nil, Nat.reduceAdd, Nat.reduceSub, Array.replicate_succ, Array.replicate_zero, List.push_toArray, List.append_toArray, List.nil_append, List.cons_append]
  have hM0 := Mem.start w
  go_upto_region 0 with fail
  refine wp_region_lit ?_
  refine wl_new hM0 (f := fun b => .pointer (some ⟨b, 0, none⟩)) (ob := .cells #[.string S, .bool red, .int .i64 E] VerT (0, 0)) (fun W => run_box_of rfl rfl (bx_ver _ _ _ rfl rfl rfl W)) rfl fun bv W1 hM1 => ?_
  simp only [nm0, nm1, nm2, nm3]
  refine wl_new hM1 (f := fun b => .pointer (some ⟨b, 0, none⟩)) (ob := .cells #[.int .i64 most] 3 (0, 0)) (fun W => run_box_of rfl rfl (rbx_int most W)) rfl fun bm W2 hM2 => ?_
  simp only [nm0, nm1, nm2, nm3]
  refine wl_new hM2 (f := fun b => .pointer (some ⟨b, 0, none⟩)) (fun W => run_alloc_of rfl (ral_Bool W)) rfl fun br W3 hM3 => ?_
  simp only [nm0, nm1, nm2, nm3]
  refine wpList_nil ?_
  clear hM0 hM1 hM2
  by_cases hn : 50 < L.length
  · have p1 : (50 : Int) < (L.length : Int) := by omega
    go_upto_region 2 with fail
    refine wp_region_lit ?_
    refine wl_call hM3 (args := #[]) (v := .bool true) (fun W => run_call_fn W (enters_of Tryd.func23 (by kernel_rfl) rfl) rfl (by simp [Act.eval])) (KL.out W3 (tab_low hT hM3.below)) rfl fun W4 hM4 => ?_
    simp only [nm0, nm1, nm2, nm3]
    refine lw_skipW (run_store_one (v := .bool true) (hM4.get 0 rfl) rfl rfl rfl cellRB rfl) rfl rfl ?_
    have hM5 := hM4.set (cs := #[.bool true]) 0 rfl
    refine wpList_nil ?_
    go_wp2_with fail
    refine ⟨.bool true, rresB rfl rfl (load_cell (hM5.get 0 rfl) rfl cellRB), rfl, hM5.below⟩
  have p1 : ¬ (50 : Int) < (L.length : Int) := by omega
  have hL : L.length ≤ 50 := by omega
  have KLine := Lib.hid (fun W hW => line_any _ L W (HTX.out.keep hW) (by omega) HS.out)
  have KRLine := Lib.hid (fun W hW => rline_any _ L W (HTX.out.keep hW) (by omega) HS.out)
  obtain ⟨R, eR⟩ : ∃ R : ByteArray, (⟨(lineL L).toArray⟩ : ByteArray) = R := ⟨_, rfl⟩
  rw [eR] at KLine KRLine
  have ER := Lib.hid eR
  clear eR
  go_upto_region 3 with fail
  refine wp_region_lit ?_
  refine wl_pure (v := .slice a L.length cap) (fun W => rfl) rfl ?_
  simp only [nm0, nm1, nm2, nm3]
  refine wl_call hM3 (args := #[.slice a L.length cap]) (v := .string R) (fun W => run_call_fn W (enters_of Tryd.func24 (by kernel_rfl) rfl) rfl (by simp [Act.eval])) (KLine.out W3 hM3.below) rfl fun W4 hM4 => ?_
  simp only [nm0, nm1, nm2, nm3]
  refine wl_pure (v := .string R) (fun W => rfl) rfl ?_
  simp only [nm0, nm1, nm2, nm3]
  refine wpList_nil ?_
  have KV4 := Lib.hid (fun W (hb : Below W4.heap.size W4 W) => KV.out W (tab_low hT (gr_step hM4.below hb)))
  have KRL4 := Lib.hid (fun W (hb : Below W4.heap.size W4 W) => KRLine.out W (gr_step hM4.below hb))
  go_upto_region 4 with fail
  refine wp_region_inw 11 mixR (by decide) (by kernel_rfl) (by kernel_rfl) ?_
  refine inw_pure (v := .string R) (fun _ => rfl) rfl rfl ?_; simp only [nm0, nm1, nm2, nm3]
  refine inw_pure (v := .slice a L.length cap) (fun _ => rfl) rfl rfl ?_; simp only [nm0, nm1, nm2, nm3]
  refine inw_callV (args := #[.slice a L.length cap]) (v := .string R) (fun W => run_call_fn W (enters_of Tryd.func25 (by kernel_rfl) rfl) rfl (by simp [Act.eval])) (fun W hb => KRL4.out W hb) rfl rfl ?_; simp only [nm0, nm1, nm2, nm3]
  refine inw_pure (v := .bool false) (fun W => run_bin_of rfl rfl rfl (by go_simp)) rfl rfl ?_; simp only [nm0, nm1, nm2, nm3]
  refine inw_pure (v := .bool false) (fun W => rfl) rfl rfl ?_; simp only [nm0, nm1, nm2, nm3]
  refine inw_row hM4 2 (v := .agg #[.string S, .bool red, .int .i64 E]) rfl rfl rfl rfl rowVer rfl rfl ?_; simp only [nm0, nm1, nm2, nm3]
  refine inw_callV (args := #[.agg #[.string S, .bool red, .int .i64 E]]) (v := .string RV) (fun W => run_call_fn W (enters_of Tryd.func26 (by kernel_rfl) rfl) rfl (by simp [Act.eval, Act.put])) (fun W hb => KV4.out W hb) rfl rfl ?_; simp only [nm0, nm1, nm2, nm3]
  refine inw_row hM4 2 (v := .agg #[.string S, .bool red, .int .i64 E]) rfl rfl rfl rfl rowVer rfl rfl ?_; simp only [nm0, nm1, nm2, nm3]
  refine inw_callV (args := #[.agg #[.string S, .bool red, .int .i64 E]]) (v := .string RV) (fun W => run_call_fn W (enters_of Tryd.func27 (by kernel_rfl) rfl) rfl (by simp [Act.eval, Act.put])) (fun W hb => KVR.out W) rfl rfl ?_; simp only [nm0, nm1, nm2, nm3]
  refine inw_pure (v := .bool false) (fun W => run_bin_of rfl rfl rfl (by go_simp)) rfl rfl ?_; simp only [nm0, nm1, nm2, nm3]
  refine inw_pure (v := .bool false) (fun W => rfl) rfl rfl ?_; simp only [nm0, nm1, nm2, nm3]
  refine inw_end fun d os => ?_
  have hM5 := hM4.calls (below_regrown W4 d os)
  refine wpAny_done (by kernel_rfl) ?_ _
  generalize Sort.grow (redrawn W4 d) os = W5 at hM5 ⊢
  clear KV4 KRL4 hM4 hM3 KLine KRLine
  go_wp2_with fail
  go_loopw [7, 33] (fun s p wr => wr = W5 ∧ ∃ k : Nat, p = .int .i64 (k : Int) ∧ k ≤ L.length ∧ s = .string ⟨(totL L k).toArray⟩)
    (fun _ p _ => L.length - (Go.RowKit.intOf p).toNat)
  case atStart => exact ⟨rfl, 0, rfl, Nat.zero_le _, congrArg Value.string ER.out.symm⟩
  case round =>
    obtain ⟨rfl, k, rfl, hk, rfl⟩ := hrel
    by_cases hlt : k < L.length
    · have p2 : (k : Int) < (L.length : Int) := by omega
      have w1 : IntKind.i64.wrap ((k : Int) + 1) = (k : Int) + 1 := IntWalk.i64_in _ (by omega)
      obtain ⟨b, off, ha, hbl, hcell⟩ := HC.out (by intro e; rw [e] at hlt; simp at hlt)
      subst ha
      have y := ((bcell hM5.below).1 b (off + k) hbl).trans (hcell k hlt)
      have z0 := totL_len L HS.out hL k (by omega)
      have zP := HS.out k
      obtain ⟨P, eP⟩ : ∃ P, L.getD k [] = P := ⟨_, rfl⟩
      have hstep : totL L (k + 1) = totL L k ++ P := by rw [← eP]; rfl
      rw [eP] at y zP
      have H2 := Lib.hid (show (⟨(totL L k).toArray⟩ : ByteArray) ++ ⟨P.toArray⟩ = ⟨(totL L (k + 1)).toArray⟩ by rw [hstep, ba_app])
      rw [← ba_size] at z0 zP
      clear eP hstep hcell
      obtain ⟨s0, e0⟩ : ∃ s0 : ByteArray, (⟨(totL L k).toArray⟩ : ByteArray) = s0 := ⟨_, rfl⟩
      obtain ⟨s1, e1⟩ : ∃ s1 : ByteArray, (⟨P.toArray⟩ : ByteArray) = s1 := ⟨_, rfl⟩
      rw [e0] at H2 z0 ⊢
      rw [e1] at H2 zP y
      have x1 : ¬ 9223372036854775807 < s0.size + s1.size := by omega
      clear e0 e1 z0 zP
      go_wp2_with fail
      go_roundw
      case rel => exact ⟨trivial, k + 1, rfl, hlt, congrArg Value.string H2.out⟩
      case measure => simp [Go.RowKit.intOf]; omega
    · have p2 : ¬ (k : Int) < (L.length : Int) := by omega
      obtain ⟨l, el⟩ : ∃ l, totL L k = l := ⟨_, rfl⟩
      rw [el]
      clear el
      have zl := ba_size l
      by_cases h6 : 600 < l.length
      · have p3 : (600 : Int) < ((⟨l.toArray⟩ : ByteArray).size : Int) := by omega
        obtain ⟨Sl, eSl⟩ : ∃ Sl : ByteArray, (⟨l.toArray⟩ : ByteArray) = Sl := ⟨_, rfl⟩
        rw [eSl] at p3 ⊢
        clear eSl zl
        go_upto_region 12 with fail
        refine wp_region_lit ?_
        refine wl_call hM5 (args := #[]) (v := .bool true) (fun W => run_call_fn W (enters_of Tryd.func23 (by kernel_rfl) rfl) rfl (by simp [Act.eval])) (KL.out _ (tab_low hT hM5.below)) rfl fun W6 hM6 => ?_
        simp only [nm0, nm1, nm2, nm3]
        refine lw_skipW (run_store_one (v := .bool true) (hM6.get 0 rfl) rfl rfl rfl cellRB rfl) rfl rfl ?_
        have hM7 := hM6.set (cs := #[.bool true]) 0 rfl
        refine wpList_nil ?_
        go_wp2_with fail
        refine ⟨.bool true, rresB rfl rfl (load_cell (hM7.get 0 rfl) rfl cellRB), rfl, hM7.below⟩
      have p3 : ¬ (600 : Int) < ((⟨l.toArray⟩ : ByteArray).size : Int) := by omega
      have hl6 : l.length ≤ 600 := by omega
      have KRN := Lib.hid (fun W => rlines_any ⟨l.toArray⟩ W (by omega))
      obtain ⟨LL, eLL⟩ : ∃ LL, lns [] l = LL := ⟨_, rfl⟩
      have HLL := Lib.hid eLL
      have hlenLL : LL.length ≤ 601 := by rw [← eLL]; have := lns_len l []; omega
      rw [show (⟨l.toArray⟩ : ByteArray).data.toList = l from rfl, eLL] at KRN
      clear eLL
      obtain ⟨Sl, eSl⟩ : ∃ Sl : ByteArray, (⟨l.toArray⟩ : ByteArray) = Sl := ⟨_, rfl⟩
      rw [eSl] at p3 zl KRN ⊢
      have HSl := Lib.hid eSl
      have HZL := Lib.hid zl
      clear eSl zl
      go_upto_region 13 with fail
      refine wp_region_lit ?_
      refine wl_pure (v := .string Sl) (fun W => rfl) rfl ?_
      simp only [nm0, nm1, nm2, nm3]
      refine wl_callE (args := #[.string Sl]) (fun W => run_call_fn W (enters_of Tryd.func28 (by kernel_rfl) rfl) rfl (by simp [Act.eval])) (KRN.out _) rfl ?_
      rintro e W6 ⟨v2, rfl, ho6, hb6⟩
      refine ⟨_, rfl, ?_⟩
      rw [List.length_map] at ho6
      obtain ⟨a2, c2, hv2⟩ := rowns_form ho6
      subst hv2
      have hM6 := hM5.calls hb6
      simp only [nm0, nm1, nm2, nm3]
      have hn6 := Mem.start W6
      refine lw_valW (v := .pointer (some ⟨W6.heap.size, 0, none⟩)) (run_alloc_of rfl (ral_Sl W6)) rfl ?_
      have hM7 := hM6.new1 (.cells #[.slice none 0 0] SlS (0, 0))
      have hn7 := hn6.new1 (.cells #[.slice none 0 0] SlS (0, 0))
      simp only [nm0, nm1, nm2, nm3]
      refine lw_skipW (run_store_one (v := .slice a2 LL.length c2) (hM7.get 0 rfl) rfl rfl rfl cellRL rfl) rfl rfl ?_
      have hM8 := hM7.set (cs := #[.slice a2 LL.length c2]) 0 rfl
      have hn8 := hn7.set (cs := #[.slice a2 LL.length c2]) 0 rfl
      simp only [nm2, nm3] at hM8 hn8
      refine wpList_nil ?_
      obtain ⟨bw, hbw⟩ : ∃ bw, W6.heap.size = bw := ⟨_, rfl⟩
      obtain ⟨W8, hW8⟩ : ∃ W8, (W6.alloc (.cells #[.slice none 0 0] SlS (0, 0))).setRow W6.heap.size #[.slice a2 LL.length c2] = W8 := ⟨_, rfl⟩
      rw [hW8] at hM8 hn8 ⊢
      rw [hbw] at hM8 ⊢
      have o2 := owns_below ho6 hn8.below (Nat.le_refl _)
      clear hW8 hbw hn6 hn7 hM7 hM6 ho6 hb6 hn8
      go_upto_region 14 with fail
      refine wp_region_lit ?_
      refine wl_pure (v := .string Sl) (fun W => rfl) rfl ?_
      simp only [nm0, nm1, nm2, nm3]
      refine wl_callE (args := #[.string Sl]) (fun W => run_call_fn W (enters_of Tryd.func29 (by kernel_rfl) rfl) rfl (by simp [Act.eval])) (lines_any Sl W8) rfl ?_
      rintro e W9 ⟨rfl, hW9⟩
      refine ⟨_, rfl, ?_⟩
      have hN9 := (Mem.start W8).new1 (.cells #[.string Sl] 9)
      rw [← hW9] at hN9
      obtain ⟨Bs, hBs⟩ : ∃ Bs, W8.heap.size = Bs := ⟨_, rfl⟩
      rw [hBs] at hN9 ⊢
      clear hW9
      simp only [nm0, nm1, nm2, nm3]
      refine wl_pure (v := .func (.func 58) #[] #[.pointer (some ⟨Bs, 0, none⟩)]) (fun W => rfl) rfl ?_
      simp only [nm0, nm1, nm2, nm3]
      refine wpList_nil ?_
      go_upto_region 15 with fail
      refine wp_region_lit ?_
      refine wl_pure (v := .func (.func 58) #[] #[.pointer (some ⟨Bs, 0, none⟩)]) (fun W => rfl) rfl ?_
      simp only [nm0, nm1, nm2, nm3]
      refine wl_pure (v := .bool false) (fun W => run_bin_of rfl rfl rfl (by rfl)) rfl ?_
      simp only [nm0, nm1, nm2, nm3]
      refine wpList_nil ?_
      go_upto_region 17 with fail
      refine wp_region_lit ?_
      refine wl_new hN9 (f := fun b => .pointer (some ⟨b, 0, none⟩)) (fun W => run_alloc_of rfl (ral_Int W)) rfl fun bn W10 hN10 => ?_
      simp only [nm0, nm1, nm2, nm3]
      refine lw_skipW (run_store_one (v := .int .i64 0) (hN10.get 0 rfl) rfl rfl rfl cellRI rfl) rfl rfl ?_
      have hN11 := hN10.set (cs := #[.int .i64 0]) 0 rfl
      simp only [nm2, nm3] at hN11
      refine wpList_nil ?_
      obtain ⟨W11, hW11⟩ : ∃ W11, W10.setRow bn #[.int .i64 0] = W11 := ⟨_, rfl⟩
      rw [hW11] at hN11 ⊢
      clear hW11 hN10 hN9
      go_wp2_with fail
      refine (wpIn_wide (n := 4)).1 ?_
      obtain ⟨D, hD⟩ : ∃ D, W11.heap.size = D := ⟨_, rfl⟩
      have lbn := hN11.low _ (List.mem_of_getElem? (i := 0) rfl)
      have ubn := hN11.lt (List.mem_of_getElem? (i := 0) rfl)
      have uBs := hN11.lt (List.mem_of_getElem? (i := 1) rfl)
      have ubw := hM8.lt (List.mem_of_getElem? (i := 0) rfl)
      have ubr := hM8.lt (List.mem_of_getElem? (i := 1) rfl)
      have ubm := hM8.lt (List.mem_of_getElem? (i := 2) rfl)
      simp only at lbn ubn uBs ubw ubr ubm
      rw [hD] at ubn uBs
      have hb811 := hN11.below
      have hD8 : W8.heap.size ≤ D := by rw [← hD]; exact hb811.size
      have hwD : w.heap.size ≤ D := Nat.le_trans hM8.below.size hD8
      have hMw := hM8.calls hb811
      have lgm := blk_of_cell HM.out
      simp only at lgm
      have hm11 := ((bcell hMw.below).1 gMax 0 lgm).trans HM.out
      have hBs11 := hN11.get 1 rfl
      rw [← HSl.out] at hBs11
      have hz8 := hM8.below.size
      have hcl : ∀ z : Int, ∀ p ∈ ([(bn, .cells #[.int .i64 z] 3 (0, 0)), (Bs, .cells #[.string Sl] 9 (0, 0))] : List Blk), p.2.isCells = true := fun z p hp => by
        simp only [List.mem_cons, List.not_mem_nil, or_false] at hp
        rcases hp with rfl | rfl <;> rfl
      have hcw : ∀ z : Bool, ∀ p ∈ ([(bw, .cells #[.slice a2 LL.length c2] SlS (0, 0)), (br, .cells #[.bool z] 4 (0, 0)), (bm, .cells #[.int .i64 most] 3 (0, 0)), (bv, .cells #[.string S, .bool red, .int .i64 E] VerT (0, 0))] : List Blk), p.2.isCells = true := fun z p hp => by
        simp only [List.mem_cons, List.not_mem_nil, or_false] at hp
        rcases hp with rfl | rfl | rfl | rfl <;> rfl
      refine wpIn_range_x rfl (by omega) (gf := 58) (lb := #[.pointer (some ⟨Bs, 0, none⟩)]) rfl trivial (enters_of Tryd.func58 (by kernel_rfl) rfl)
        (lines1_x (4 - 1) (by omega) l (by omega) Bs (fun k => k ≠ bn ∧ k ≠ D + 1) W11 hBs11 m hm11 ⟨by omega, by omega⟩) kpF_t ?hkb (Below.refl _ _) (fun _ => rfl)
        (fun pre V => Mem W8 [(bn, .cells #[.int .i64 (pre.length : Int)] 3 (0, 0)), (Bs, .cells #[.string Sl] 9 (0, 0))] V)
        (fun cd xs V => cd = .ret ∧ Mem w [(bw, .cells #[.slice a2 LL.length c2] SlS (0, 0)), (br, .cells #[.bool true] 4 (0, 0)), (bm, .cells #[.int .i64 most] 3 (0, 0)), (bv, .cells #[.string S, .bool red, .int .i64 E] VerT (0, 0))] V)
        ?hI ?hIx ?hInv ?h0
        (fun x a' V => a' = { tmps := #[.slice a L.length cap, .agg #[.string S, .bool red, .int .i64 E], .int .i64 most, undef, .pointer (some ⟨bv, 0, none⟩), .pointer (some ⟨bm, 0, none⟩), .pointer (some ⟨br, 0, none⟩), .string Sl, undef, u9, .pointer (some ⟨bw, 0, none⟩), .func (.func 58) #[] #[.pointer (some ⟨Bs, 0, none⟩)], .pointer (some ⟨bn, 0, none⟩), .string ⟨x.toArray⟩, .slice a L.length cap, .int .i64 (L.length : Int), .bool false, undef, .slice a L.length cap, .string R, .string R, .slice a L.length cap, .string R, .bool false, .bool false, .agg #[.string S, .bool red, .int .i64 E], .string RV, .agg #[.string S, .bool red, .int .i64 E], .string RV, .bool false, .bool false, .slice a L.length cap, .int .i64 (L.length : Int), .int .i64 (k : Int), .bool false, u35, u36, u37, u38, u39, u40, .string Sl, .int .i64 (Sl.size : Int), .bool false, undef, .string Sl, .slice a2 LL.length c2, .string Sl, .func (.func 58) #[] #[.pointer (some ⟨Bs, 0, none⟩)], .func (.func 58) #[] #[.pointer (some ⟨Bs, 0, none⟩)], .bool false, .func (.func 58) #[] #[.pointer (some ⟨Bs, 0, none⟩)], .string ⟨x.toArray⟩, undef, undef, undef, undef, undef, undef, undef, undef, undef, undef, undef, undef, undef, undef, undef, undef, undef, undef, undef, undef, undef, undef, undef, undef, undef], defers := [] }) ?hAx ?assign ?body ?done ?stop
      case hkb =>
        rw [hD]
        intro V r r' h
        exact ⟨by simp [World.putObj], fun k ob hk hf => ⟨(World.putObj_heap_other hf.2).trans hk, hf⟩⟩
      case hI =>
        rw [hD]
        intro pre A B row hm hg hr
        exact mem_own hm (hcl _) hD8 hg hr
      case hIx =>
        rw [hD]
        rintro cd xs A B row ⟨h1, hm⟩ hg hr
        exact ⟨h1, mem_own hm (hcw _) hwD hg hr⟩
      case hInv =>
        intro pre V hm hz
        trivial
      case h0 => exact hN11
      case hAx =>
        rw [hD]
        rintro x a' u A B row h1 hg hr
        exact h1
      case assign =>
        intro l2 pre x V K hI hx hgo
        rw [hD] at hgo
        refine wpIn_fr (t' := #[.slice a L.length cap, .agg #[.string S, .bool red, .int .i64 E], .int .i64 most, undef, .pointer (some ⟨bv, 0, none⟩), .pointer (some ⟨bm, 0, none⟩), .pointer (some ⟨br, 0, none⟩), .string Sl, undef, u9, .pointer (some ⟨bw, 0, none⟩), .func (.func 58) #[] #[.pointer (some ⟨Bs, 0, none⟩)], .pointer (some ⟨bn, 0, none⟩), undef, .slice a L.length cap, .int .i64 (L.length : Int), .bool false, undef, .slice a L.length cap, .string R, .string R, .slice a L.length cap, .string R, .bool false, .bool false, .agg #[.string S, .bool red, .int .i64 E], .string RV, .agg #[.string S, .bool red, .int .i64 E], .string RV, .bool false, .bool false, .slice a L.length cap, .int .i64 (L.length : Int), .int .i64 (k : Int), .bool false, u35, u36, u37, u38, u39, u40, .string Sl, .int .i64 (Sl.size : Int), .bool false, undef, .string Sl, .slice a2 LL.length c2, .string Sl, .func (.func 58) #[] #[.pointer (some ⟨Bs, 0, none⟩)], .func (.func 58) #[] #[.pointer (some ⟨Bs, 0, none⟩)], .bool false, .func (.func 58) #[] #[.pointer (some ⟨Bs, 0, none⟩)], .string ⟨x.toArray⟩, undef, undef, undef, undef, undef, undef, undef, undef, undef, undef, undef, undef, undef, undef, undef, undef, undef, undef, undef, undef, undef, undef, undef, undef, undef]) (by simp) ?_
        refine wpIn_region_lit ?_
        refine wi_val (v := .string ⟨x.toArray⟩) (fun _ => trivial) (by simp) rfl rfl ?_
        refine wpListIn_nil ?_
        exact hgo _ _ (below_keeps (Below.refl _ _) _) ⟨Nat.le_refl _, fun k ob hk hf => ⟨hk, hf⟩⟩ hI rfl
      case body =>
        rw [hD]
        rintro l2 pre x a' V hl1 hloop hI rfl hx
        rw [HLL.out] at hx
        have hxl : pre.length < LL.length := by
          have := hx.length_le
          simp only [List.length_append, List.length_cons, List.length_nil] at this
          omega
        have hxa : LL[pre.length]? = some x := by
          obtain ⟨r, hr⟩ := hx
          rw [← hr]
          simp
        obtain ⟨g, cap2, hv, -, hg, cur, hcur, htk⟩ := rowns_slice o2 (by omega)
        obtain ⟨rfl, rfl⟩ : a2 = some ⟨g, 0, none⟩ ∧ c2 = cap2 := by
          injection hv with e1 e2 e3
          exact ⟨e1, e3⟩
        have hrt := row_str htk hxa
        have hbV := hI.below
        have vcur := (hbV.block g hg).trans hcur
        have vbn := hI.get 0 rfl
        have vbw := (hbV.block bw ubw).trans (hM8.get 0 rfl)
        have vbm := (hbV.block bm ubm).trans (hM8.get 2 rfl)
        have ln := (Array.getElem?_eq_some_iff.1 vbn).1
        have lw := (Array.getElem?_eq_some_iff.1 vbw).1
        have lg := (Array.getElem?_eq_some_iff.1 vcur).1
        have q1 : (pre.length : Int) < (LL.length : Int) := by omega
        have w1 : IntKind.i64.wrap ((pre.length : Int) + 1) = (pre.length : Int) + 1 := IntWalk.i64_in _ (by omega)
        obtain ⟨X, eX⟩ : ∃ X : ByteArray, (⟨x.toArray⟩ : ByteArray) = X := ⟨_, rfl⟩
        rw [eX] at hrt ⊢
        refine wpIn_block ?_
        refine wpIn_seq_k fun K2 hK2 => ?_
        refine wpIn_seq_k fun K3 hK3 => ?_
        apply regionL_at _ V (by kernel_rfl) ?run ?rest
        case run =>
          refine lw_valW (v := .int .i64 (pre.length : Int)) (run_load_cell rfl rfl vbn rfl cellRI) rfl ?_
          simp only [nm0, nm1, nm2, nm3]
          refine lw_valW (v := .slice (some ⟨g, 0, none⟩) LL.length c2) (run_load_cell rfl rfl vbw rfl cellRL) rfl ?_
          simp only [nm0, nm1, nm2, nm3]
          refine wl_pure (v := .int .i64 (LL.length : Int)) (fun W => by go_simp) rfl ?_
          simp only [nm0, nm1, nm2, nm3]
          refine wl_pure (v := .bool false) (fun W => run_bin_of rfl rfl rfl (by go_simp)) rfl ?_
          simp only [nm0, nm1, nm2, nm3]
          refine wl_pure (v := .bool false) (fun W => rfl) rfl ?_
          simp only [nm0, nm1, nm2, nm3]
          refine wl_pure (v := .string X) (fun W => rfl) rfl ?_
          simp only [nm0, nm1, nm2, nm3]
          refine lw_valW (v := .slice (some ⟨g, 0, none⟩) LL.length c2) (run_load_cell rfl rfl vbw rfl cellRL) rfl ?_
          simp only [nm0, nm1, nm2, nm3]
          refine lw_valW (v := .int .i64 (pre.length : Int)) (run_load_cell rfl rfl vbn rfl cellRI) rfl ?_
          simp only [nm0, nm1, nm2, nm3]
          refine wl_pure (v := .pointer (some ⟨g, pre.length, none⟩)) (fun W => run_index_of rfl rfl rfl (ix_Str g LL.length c2 pre.length hxl W)) rfl ?_
          simp only [nm0, nm1, nm2, nm3]
          refine lw_valW (v := .string X) (run_load_cell rfl rfl vcur hrt cellVS) rfl ?_
          simp only [nm0, nm1, nm2, nm3]
          refine wl_pure (v := .bool false) (fun W => run_bin_of rfl rfl rfl (by go_simp)) rfl ?_
          simp only [nm0, nm1, nm2, nm3]
          refine wl_pure (v := .bool false) (fun W => rfl) rfl ?_
          simp only [nm0, nm1, nm2, nm3]
          exact wpList_nil ⟨rfl, rfl, rfl⟩
        case rest =>
          have hb1 : Below V.heap.size V V := Below.refl _ _
          have hI1 := hI
          refine hK3 _ _ ?_
          refine wpIn_cond_false rfl ?_
          refine wpIn_skip ?_
          refine hK2 _ _ ?_
          refine wpIn_seq_k fun K4 hK4 => ?_
          refine wpIn_region_lit ?_
          refine wi_val (v := .int .i64 (pre.length : Int)) (fun _ => trivial) (by simp) (run_load_cell rfl rfl (hI1.get 0 rfl) rfl cellRI) rfl ?_
          refine wi_val (w' := V) (v := .int .i64 ((pre.length : Int) + 1)) (fun _ => trivial) (by simp) (run_bin_of rfl rfl rfl (by go_simp)) rfl ?_
          refine wi_skip (fun _ => trivial) (by simp) (run_store_one (v := .int .i64 ((pre.length : Int) + 1)) (hI1.get 0 rfl) rfl rfl rfl cellRI rfl) rfl rfl ?_
          have hI2 := hI1.set (cs := #[.int .i64 ((pre.length : Int) + 1)]) 0 rfl
          refine wpListIn_nil (hK4 _ _ ?_)
          have vbm2 : (V.setRow bn #[.int .i64 ((pre.length : Int) + 1)]).heap[bm]? = some (.cells #[.int .i64 most] 3 (0, 0)) := by
            rw [setRow_other _ _ _ _ (by omega)]
            exact (hb1.block bm (Array.getElem?_eq_some_iff.1 vbm).1).trans vbm
          refine wpIn_seq_k fun K5 hK5 => ?_
          refine wpIn_region_lit ?_
          refine wi_val (v := .int .i64 ((pre.length : Int) + 1)) (fun _ => trivial) (by simp) (run_load_cell rfl rfl (hI2.get 0 rfl) rfl cellRI) rfl ?_
          refine wi_val (v := .int .i64 most) (fun _ => trivial) (by simp) (run_load_cell rfl rfl vbm2 rfl cellRI) rfl ?_
          obtain ⟨z, ez⟩ : ∃ z : Bool, z = (((pre.length : Int) + 1) == most) := ⟨_, rfl⟩
          refine wi_val (v := .bool z) (fun _ => trivial) (by simp) (by rw [ez]; rfl) rfl ?_
          refine wpListIn_nil (hK5 _ _ ?_)
          have e1 : (((pre ++ [x]).length : Nat) : Int) = (pre.length : Int) + 1 := by simp
          have hkeep : KeepsFrom D V (V.setRow bn #[.int .i64 ((pre.length : Int) + 1)]) := (below_keeps hb1 D).trans (setRow_keeps _ _ _ _ ubn)
          have hI3 : Mem W8 [(bn, .cells #[.int .i64 (((pre ++ [x]).length : Nat) : Int)] 3 (0, 0)), (Bs, .cells #[.string Sl] 9 (0, 0))] (V.setRow bn #[.int .i64 ((pre.length : Int) + 1)]) := by rw [e1]; exact hI2
          obtain ⟨V2, hV2⟩ : ∃ V2, V.setRow bn #[.int .i64 ((pre.length : Int) + 1)] = V2 := ⟨_, rfl⟩
          rw [hV2] at hI3 hkeep
          by_cases hz : (pre.length : Int) + 1 = most
          · have : z = true := by rw [ez]; simpa using hz
            subst this
            refine wpIn_cond_true rfl ?_
            have hM2 := hM8.calls hI3.below
            rw [hV2]
            refine wpIn_seq_k fun K6 hK6 => ?_
            refine regionL_inRound (fun A V' => KeepsFrom D V V' ∧ Mem w [(bw, .cells #[.slice (some ⟨g, 0, none⟩) LL.length c2] SlS (0, 0)), (br, .cells #[.bool true] 4 (0, 0)), (bm, .cells #[.int .i64 most] 3 (0, 0)), (bv, .cells #[.string S, .bool red, .int .i64 E] VerT (0, 0))] V') (by kernel_rfl) ?_ ?_
            · refine wl_call (Mem.start V2) (args := #[]) (v := .bool true) (fun W => run_call_fn W (enters_of Tryd.func23 (by kernel_rfl) rfl) rfl (by simp [Act.eval])) (KL.out V2 (tab_low hT hM2.below)) rfl fun V3 hm3 => ?_
              simp only [nm0, nm1, nm2, nm3]
              have hM3 := hM2.calls hm3.below
              refine lw_skipW (run_store_one (v := .bool true) (hM3.get 1 rfl) rfl rfl rfl cellRB rfl) rfl rfl ?_
              have hM4 := hM3.set (cs := #[.bool true]) 1 rfl
              simp only [nm2, nm3] at hM4
              refine wpList_nil ⟨rfl, (hkeep.trans (below_keeps hm3.below D)).trans (setRow_keeps _ _ _ _ (by omega)), hM4⟩
            · rintro A V' ⟨hk1, hm1⟩
              refine hK6 _ _ ?_
              refine wpIn_ret ?_
              exact ⟨hk1, rfl, hm1⟩
          · have : z = false := by rw [ez]; simpa using hz
            subst this
            refine wpIn_cond_false rfl ?_
            refine wpIn_skip ?_
            rw [hV2]
            refine ⟨hkeep, ⟨by rw [← hV2]; simp, fun k ob hk hf => ⟨?_, hf⟩⟩, hI3⟩
            rw [← hV2, setRow_other _ _ _ _ hf.1]
            exact (hb1.block k (Array.getElem?_eq_some_iff.1 hk).1).trans hk
      case done =>
        rintro D' V hD' hV hK
        rw [hD] at hD'
        rw [HLL.out] at hV
        have hbV := hV.below
        have hMV := hM8.calls hbV
        have hTV := tab_low hT hMV.below
        go_upto_region 25 with fail
        refine wp_region_lit ?_
        refine lw_valW (v := .int .i64 (LL.length : Int)) (run_load_cell rfl rfl (hV.get 0 rfl) rfl cellRI) rfl ?_
        simp only [nm0, nm1, nm2, nm3]
        refine lw_valW (v := .slice a2 LL.length c2) (run_load_cell rfl rfl (hMV.get 0 rfl) rfl cellRL) rfl ?_
        simp only [nm0, nm1, nm2, nm3]
        refine wl_pure (v := .int .i64 (LL.length : Int)) (fun W => by go_simp) rfl ?_
        simp only [nm0, nm1, nm2, nm3]
        refine wl_pure (v := .bool true) (fun W => run_bin_of rfl rfl rfl (by go_simp)) rfl ?_
        simp only [nm0, nm1, nm2, nm3]
        refine wl_pure (v := .bool true) (fun W => rfl) rfl ?_
        simp only [nm0, nm1, nm2, nm3]
        refine wl_call (Mem.start V) (args := #[]) (v := .bool true) (fun W => run_call_fn W (enters_of Tryd.func23 (by kernel_rfl) rfl) rfl (by simp [Act.eval])) (KL.out V hTV) rfl fun V9 hm9 => ?_
        simp only [nm0, nm1, nm2, nm3]
        have hM9 := hMV.calls hm9.below
        have hK9 := (hm9.below.block D' (Array.getElem?_eq_some_iff.1 hK).1).trans hK
        refine wl_pure (v := .bool true) (fun W => rfl) rfl ?_
        simp only [nm0, nm1, nm2, nm3]
        refine lw_skipW (run_store_one (v := .bool true) (hM9.get 1 rfl) rfl rfl rfl cellRB rfl) rfl rfl ?_
        have hMa := hM9.set (cs := #[.bool true]) 1 rfl
        simp only [nm2, nm3] at hMa
        refine wpList_nil ?_
        have hKa : (V9.setRow br #[.bool true]).heap[D']? = some (.deferred (some [])) := by rw [setRow_other _ _ _ _ (by omega)]; exact hK9
        obtain ⟨Va, hVa⟩ : ∃ Va, V9.setRow br #[.bool true] = Va := ⟨_, rfl⟩
        rw [hVa] at hMa hKa ⊢
        clear hVa
        go_wp2_with fail
        refine ⟨by simp, .inl ⟨_, _, rfl, run_takeDeferred hKa, ?_⟩⟩
        have hpo := grownBy_putObj' Va D' (.deferred none)
        have hMb := mem_own hMa (D := D) (hcw true) hwD hpo fun r e => by cases e; exact ⟨hD', _, hKa, rfl⟩
        exact ⟨.bool true, rresB rfl rfl (load_cell (hMb.get 1 rfl) rfl cellRB), rfl, hMb.below⟩
      case stop =>
        rw [hD]
        rintro D' c pre x V hD' hx ⟨rfl, hMa⟩ hKa
        refine wpIn_ret ?_
        refine ⟨by simp, .inl ⟨_, _, rfl, run_takeDeferred hKa, ?_⟩⟩
        have hpo := grownBy_putObj' V D' (.deferred none)
        have hMb := mem_own hMa (D := D) (hcw true) hwD hpo fun r e => by cases e; exact ⟨hD', _, hKa, rfl⟩
        exact ⟨.bool true, rresB rfl rfl (load_cell (hMb.get 1 rfl) rfl cellRB), rfl, hMb.below⟩
end Go.Proofs.YtdnkpclpcelbaaaDoor
