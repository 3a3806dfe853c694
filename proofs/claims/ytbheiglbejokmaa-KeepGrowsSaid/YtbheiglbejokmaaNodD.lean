/- tree.Get (layer 7), over a node that came in. -/
import Derived.Test.YtbheiglbejokmaaNodC
import Derived.RangeFuncBox
import Derived.Test.YtbheiglbejokmaaNodE
import Derived.Test.YtbheiglbejokmaaPrt
namespace Go.Proofs.Ytbheiglbejokmaa
set_option maxRecDepth 20000
set_option linter.unusedSimpArgs false
set_option linter.unusedVariables false
open Go.RowKit Go.Sort Go.Lib Go.Shelf
attribute [local go_sem] Oper.semAt_some
theorem ownFrom_mem {β : Type} {w : World} {M : List Blk} {B : Nat} (hc : ∀ p ∈ M, p.2.isCells = true) (hB : w.heap.size ≤ B) : OwnFrom B (fun (_ : β) W => Mem w M W) :=
  fun _ W W' row hs hg hr => ⟨hs.below.grown hg hs.below.size (fun k e => Nat.le_trans hB (hr k e).1), hs.low, hs.nod, fun p hp => by
    have g := hs.at_ p hp
    have hne : some p.1 ≠ row := by
      intro e
      obtain ⟨_, o, h1, h2⟩ := hr _ e.symm
      rw [g] at h1
      cases h1
      rw [hc p hp] at h2
      cases h2
    rw [hg.block p.1 (Array.getElem?_eq_some_iff.1 g).1 hne]
    exact g⟩
theorem ownFrom_pure {β : Type} {I : β → Prop} {B : Nat} : OwnFrom B (fun (s : β) (_ : World) => I s) := fun _ _ _ _ hs _ _ => hs
def M5 (b : Nat) (nd : Array Value) (key : ByteArray) (r : Array Value) (ok : Bool) : List Blk := [(b + 1 + 1 + 1 + 1, .cells nd 25 (0, 0)), (b + 1 + 1 + 1, .cells #[.bool ok] 4 (0, 0)), (b + 1 + 1, .cells r 25 (0, 0)), (b + 1, .cells #[.string key] 9 (0, 0)), (b, .cells nd 25 (0, 0))]
theorem m5_cells (b : Nat) (nd : Array Value) (key : ByteArray) (r : Array Value) (ok : Bool) : ∀ p ∈ M5 b nd key r ok, p.2.isCells = true := by
  intro p hp
  simp only [M5, List.mem_cons, List.not_mem_nil, or_false] at hp
  rcases hp with rfl | rfl | rfl | rfl | rfl <;> rfl
/-- The frame of tree.Get inside its range. -/
def frG (b : Nat) (nd : Array Value) (key xs : ByteArray) (kx : Array Value) (u v : Value) : Array Value :=
  #[.agg nd, .string key, .pointer (some ⟨b, 0, none⟩), .pointer (some ⟨b + 1, 0, none⟩), .pointer (some ⟨b + 1 + 1, 0, none⟩), .pointer (some ⟨b + 1 + 1 + 1, 0, none⟩), u, v, .pointer (some ⟨b, 0, none⟩), .int .i64 6, .bool true, .agg nd, .func (.func 70) #[] #[.pointer (some ⟨b + 1 + 1 + 1 + 1, 0, none⟩)], .string xs, .agg kx, undef, undef, undef, undef, undef]
theorem kid_total {w : World} {al : Option Addr} {ll : Nat} {ls : List Nd} {kid : Nat → List Value} (hl : ls.length = ll) (hrow : RowAt w al ll 5 kid) (hkids : ∀ (i : Nat) (h : i < ls.length), IsNd w (kid i) ls[i]) :
    ∃ k : Nat → List Value, RowAt w al ll 5 k ∧ ∀ i, IsNd w (k i) (ls.getD i zeroNd) := by
  refine ⟨fun i => if i < ll then kid i else zeroC, ⟨fun h0 => ?_⟩, fun i => ?_⟩
  · obtain ⟨b, off, e, hlt, hc⟩ := hrow.at_ h0
    refine ⟨b, off, e, hlt, fun i hi => ?_⟩
    simp only [if_pos hi]
    exact hc i hi
  · by_cases h : i < ll
    · simp only [if_pos h]
      have hi : i < ls.length := by omega
      rw [List.getD_eq_getElem?_getD, List.getElem?_eq_getElem hi]
      exact hkids i hi
    · simp only [if_neg h]
      have hi : ls.length ≤ i := by omega
      rw [List.getD_eq_getElem?_getD, List.getElem?_eq_none hi]
      exact isNd_zero w
theorem pre_last {p0 : List Nat} {x m : Nat} (h : p0 ++ [x] <+: List.range m) : x < m ∧ ∀ j, j < x → j ∈ p0 := by
  obtain ⟨t, ht⟩ := h
  have hm : p0.length < m := by
    have := congrArg List.length ht
    simp at this
    omega
  have hx : (List.range m)[p0.length]? = some x := by rw [← ht]; simp
  rw [List.getElem?_range hm] at hx
  have hx2 : p0.length = x := by simpa using hx
  have hp : p0 = (List.range m).take p0.length := by rw [← ht]; simp
  refine ⟨by omega, fun j hj => ?_⟩
  rw [hp, List.take_range]
  exact List.mem_range.2 (by omega)
section
variable {P : Program} {w w' : World} {ops : Array Oper} {Q : Exit → Act → World → Prop} {o : Oper} {rest : List Oper} {A : Act}
theorem wl_to (h : (execOp A.eval o).run P w = .ok .skip w') (hgd : Region.wanted o (yielded ops A.tmps) = true) (hd : o.dst = none) (hr : wpList P ops Q rest A w') : wpList P ops Q (o :: rest) A w := by
  refine wpList_step fun K hK => ?_
  rw [if_pos hgd]
  unfold Oper.wp
  rw [h]
  show K (A.put o.dst undef) w'
  rw [hd]
  exact hK _ _ hr
theorem results_cc {fn : Func} {tmps : Array Value} {v1 v2 : Value} {a1 t1 b1 a2 t2 b2 : Nat} (h : fn.results = #[.cell a1 t1, .cell a2 t2]) (h1 : tmps.getD a1 undef = .pointer (some ⟨b1, 0, none⟩)) (h2 : tmps.getD a2 undef = .pointer (some ⟨b2, 0, none⟩))
    (l1 : (loadVar t1 ⟨b1, 0, none⟩).run P w = .ok v1 w) (l2 : (loadVar t2 ⟨b2, 0, none⟩).run P w = .ok v2 w) : (results fn tmps).run P w = .ok (.tuple #[v1, v2]) w := by
  have g1 : tmps[a1]?.getD undef = .pointer (some ⟨b1, 0, none⟩) := by simpa using h1
  have g2 : tmps[a2]?.getD undef = .pointer (some ⟨b2, 0, none⟩) := by simpa using h2
  simp [results, h, g1, g2, asAddr, l1, l2]
end
theorem wpIn_fr {F : Fence} {n : Nat} {P : Program} {c : Code} {Q : Exit → Act → World → Prop} {t t' : Array Value} {W : World} (e : t = t') (h : c.wpIn F n P Q { tmps := t', defers := [] } W) : c.wpIn F n P Q { tmps := t, defers := [] } W := by
  rw [e]; exact h
theorem al_Nd (W : World) : (Instr.alloc 25 true (.tuple #[])).run Try.prog W = .ok (.pointer (some ⟨W.heap.size, 0, none⟩)) (W.alloc (.cells zeroC.toArray 25 (0, 0))) := by kernel_rfl
theorem cellS : CellTy Try.prog 9 := ⟨⟨_, Try.underlying9, rfl⟩, by kernel_rfl⟩
theorem cellB : CellTy Try.prog 4 := ⟨⟨_, Try.underlying4, rfl⟩, by kernel_rfl⟩
/-- What the call leaves behind, once the mark on its deferred calls is taken. -/
theorem get_left {w W : World} {b D : Nat} {nd : Array Value} {key : ByteArray} {r : Array Value} {ok : Bool} (hM : Mem w (M5 b nd key r ok) W) (hD : w.heap.size ≤ D) (hK : W.heap[D]? = some (.deferred (some []))) : Mem w (M5 b nd key r ok) (W.putObj D (.deferred none)) :=
  ownFrom_mem (β := Unit) (m5_cells _ _ _ _ _) (Nat.le_refl _) () W _ (some D) hM (grownBy_putObj' W D _) (fun k e => by cases e; exact ⟨hD, _, hK, rfl⟩)
set_option maxRecDepth 100000 in
set_option maxHeartbeats 4000000 in
theorem tget_from (w0 w : World) (cs : List Value) (N : Nd) (h : IsNd w0 cs N) (hb0 : Below w0.heap.size w0 w) (key : ByteArray) :
    Calls Try.prog 43 #[.agg cs.toArray, .string key] w fun e w' => ∃ cs', IsNd w0 cs' (N.get key) ∧ e = .returned (.tuple #[.agg cs'.toArray, .bool (N.has key)]) ∧ Below w.heap.size w w' := by
  have H := Lib.hid (h.keep hb0)
  cases h with
  | @mk kind n s ks ls ak lk ck al ll cl kid hkind hn hs hk hl hlm hrow hkids =>
    have KE := Lib.hid (fun W hW => entries_any W _ _ (H.out.keep hW))
    obtain ⟨kix, hrow2, hkids2⟩ := kid_total hl hrow hkids
    clear hrow hkids
    have hrow := hrow2
    have hkids := hkids2
    clear hrow2 hkids2 kid
    obtain ⟨kid, ekid⟩ : ∃ k, k = kix := ⟨_, rfl⟩
    rw [← ekid] at hrow hkids
    clear ekid kix
    have HK0 := Lib.hid hkids
    have HK := Lib.hid (fun i => (hkids i).keep hb0)
    have HR := Lib.hid (hrow.below hb0)
    have HS := Lib.hid (hk.below hb0)
    clear hb0
    clear hkids hrow hk hkind hn hs
    refine (callsIn_wide (n := 3)).1 (callsIn_of_wp_marks Try.func43 rfl trivial (wpIn_wide.2 ?_) rfl)
    simp only [Try.ntmps43, List.size_toArray, List.length_cons, List.length_nil, Nat.reduceAdd, Nat.reduceSub, Array.replicate_succ, Array.replicate_zero, List.push_toArray, List.append_toArray, List.nil_append, List.cons_append]
    by_cases c6 : kind = 6
    · subst c6
      obtain ⟨nd, hnd⟩ : ∃ a : Array Value, a = #[.int .i64 6, .int .i64 n, .string s, .slice ak lk ck, .slice al ll cl] := ⟨_, rfl⟩
      have hM0 := ((((Mem.start w).new1 (.cells nd 25 (0, 0))).new1 (.cells #[.string key] 9 (0, 0))).new1 (.cells zeroC.toArray 25 (0, 0))).new1 (.cells #[.bool false] 4 (0, 0))
      have hM1 := hM0.new1 (.cells nd 25 (0, 0))
      simp only [World.size_alloc] at hM1
      rw [hnd] at hM0 hM1
      have HM0 := Lib.hid hM0.below
      have HM1 := Lib.hid hM1
      clear hM0 hM1 hnd
      go_wp2_with fail
      refine (KE.out _ HM0.out).mono ?_
      rintro e w1 ⟨rfl, rfl⟩
      go_wp2_with fail
      have hM1 := HM1.out
      clear HM1 HM0
      generalize hW1 : World.alloc (World.alloc (World.alloc (World.alloc (World.alloc w _) _) _) _) _ = W1 at hM1
      have hnode := hM1.get 0 rfl
      have hb1 := hM1.below
      refine (wpIn_wide (n := 3)).1 ?_
      refine wpIn_rangeFunc_ownH rfl (by omega) (gf := 70) (lb := #[.pointer (some ⟨w.heap.size + 1 + 1 + 1 + 1, 0, none⟩)]) rfl trivial (enters_of Try.func70 (by kernel_rfl) rfl)
        (ent_stops (3 - 1) (by omega) (w.heap.size + 1 + 1 + 1 + 1) w W1 HS.out HR.out hlm (fun i hi => ⟨_, HK.out i⟩) hb1 hnode) kpN_t (kpN_b (by have := hb1.size; omega) ?hBs) (Below.refl _ _) (fun _ => rfl)
        (fun pre W => Mem w (M5 w.heap.size #[.int .i64 6, .int .i64 n, .string s, .slice ak lk ck, .slice al ll cl] key zeroC.toArray false) W ∧ ∀ x ∈ pre, ks.getD x ByteArray.empty ≠ key)
        (fun c pre W => c = .ret ∧ ∃ x p0, pre = p0 ++ [x] ∧ (∀ y ∈ p0, ks.getD y ByteArray.empty ≠ key) ∧ ks.getD x ByteArray.empty = key ∧ Mem w (M5 w.heap.size #[.int .i64 6, .int .i64 n, .string s, .slice ak lk ck, .slice al ll cl] key (kid x).toArray true) W)
        ?hI ?hIx ?h0 (fun x a' W => ∃ Bx, a' = { tmps := frG w.heap.size #[.int .i64 6, .int .i64 n, .string s, .slice ak lk ck, .slice al ll cl] key (ks.getD x ByteArray.empty) (kid x).toArray (.string (ks.getD x ByteArray.empty)) (.pointer (some ⟨Bx, 0, none⟩)), defers := [] } ∧ w.heap.size + 1 + 1 + 1 + 1 < Bx ∧ W.heap[Bx]? = some (.cells (kid x).toArray 25 (0, 0))) ?hAx ?assign ?body ?done ?stop
      case hBs => exact (Array.getElem?_eq_some_iff.1 hnode).1
      case hI => exact fun x W W' row hs hg hr => ⟨ownFrom_mem (β := Unit) (m5_cells _ _ _ _ _) hb1.size () W W' row hs.1 hg hr, hs.2⟩
      case hIx =>
        intro c x W W' row hs hg hr
        obtain ⟨rfl, y, p0, e, h1, h2, hm⟩ := hs
        exact ⟨rfl, y, p0, e, h1, h2, ownFrom_mem (β := Unit) (m5_cells _ _ _ _ _) hb1.size () W W' row hm hg hr⟩
      case h0 => exact ⟨hM1, fun x hx => by cases hx⟩
      case hAx =>
        intro x a' u W W' row hs hg hr
        obtain ⟨Bx, h0, h1, h2⟩ := hs
        refine ⟨Bx, h0, h1, ?_⟩
        have hne : some Bx ≠ row := by
          intro e
          obtain ⟨_, o, h3, h4⟩ := hr _ e.symm
          rw [h2] at h3
          cases h3
          cases h4
        rw [hg.block Bx (Array.getElem?_eq_some_iff.1 h2).1 hne]
        exact h2
      case done =>
        rename_i Q0 K0 hK0
        rintro D xs W hD rfl ⟨hM, hno⟩ hK
        refine hK0 _ _ ?_
        have HM := Lib.hid hM
        have HNO := Lib.hid hno
        clear hM hno
        have hz : (Nd.mk 6 n s ks ls).get key = zeroNd ∧ (Nd.mk 6 n s ks ls).has key = false := by
          have h := at_none (kind := 6) (n := n) (s := s) (key := key) (ks := ks) (ls := ls) (k := min lk ll) HS.out.1 hl (by omega) (fun j hj => HNO.out j (List.mem_range.2 hj))
          unfold Nd.get Nd.has
          rw [h]
          exact ⟨rfl, rfl⟩
        have HZ := Lib.hid hz
        clear hz HNO
        go_upto_region 7 with fail
        refine wp_region_lit ?_
        refine wl_pure (v := .agg zeroC.toArray) (fun W => run_build_of (ps := #[]) rfl (by simp) (bd_Nd W)) rfl ?_
        simp only [nm0, nm1, nm2, nm3]
        refine wl_to (run_store_whole (HM.out.get 2 rfl) rfl rfl rfl rowNd rfl one_zeroC) rfl rfl ?_
        have hM2 := HM.out.set (cs := zeroC.toArray) 2 rfl
        refine wl_to (run_store_one (v := .bool false) (hM2.get 1 rfl) rfl rfl rfl cellB rfl) rfl rfl ?_
        have hM3 := hM2.set (cs := #[.bool false]) 1 rfl
        refine wpList_nil ?_
        have hK3 := (setRow_keeps _ (w.heap.size + 1 + 1 + 1) D #[.bool false] (by have := (Array.getElem?_eq_some_iff.1 hnode).1; omega)).same D _ (Nat.le_refl _) ((setRow_keeps W (w.heap.size + 1 + 1) D zeroC.toArray (by have := (Array.getElem?_eq_some_iff.1 hnode).1; omega)).same D _ (Nat.le_refl _) hK rfl) rfl
        go_wp2_with fail
        refine ⟨by simp, .inl ⟨_, _, rfl, run_takeDeferred hK3, ?_⟩⟩
        have hM9 := get_left hM3 (by have := hb1.size; omega) hK3
        refine ⟨.tuple #[.agg zeroC.toArray, .bool false], results_cc rfl rfl rfl (hM9.load 2 rfl rowNd) (load_cell (hM9.get 1 rfl) rfl cellB), zeroC, ?_, ?_, hM9.below⟩
        · rw [HZ.out.1]; exact isNd_zero w0
        · rw [HZ.out.2]
      case stop =>
        rintro D c pre W hD hpre ⟨rfl, x, p0, rfl, h1, h2, hM⟩ hK
        have HM := Lib.hid hM
        clear hM
        obtain ⟨hx, hall⟩ := pre_last hpre
        have hz : (Nd.mk 6 n s ks ls).get key = ls.getD x zeroNd ∧ (Nd.mk 6 n s ks ls).has key = true := by
          have h := at_some (n := n) (s := s) (key := key) (ks := ks) (ls := ls) (k := x) HS.out.1 hl (by omega) (by omega) (fun j hj => h1 j (hall j hj)) h2
          unfold Nd.get Nd.has
          rw [h]
          exact ⟨rfl, rfl⟩
        have HZ := Lib.hid hz
        clear hz
        refine wpIn_wide.2 ?_
        go_wp2_with fail
        refine ⟨by simp, .inl ⟨_, _, rfl, run_takeDeferred hK, ?_⟩⟩
        have hM9 := get_left HM.out (by have := hb1.size; omega) hK
        refine ⟨.tuple #[.agg (kid x).toArray, .bool true], results_cc rfl rfl rfl (hM9.load 2 rfl (by rw [isNd_len (HK.out x)]; exact rowNd)) (load_cell (hM9.get 1 rfl) rfl cellB), kid x, ?_, ?_, hM9.below⟩
        · rw [HZ.out.1]; exact HK0.out x
        · rw [HZ.out.2]
      case assign =>
        intro l pre x W K hI hgo
        obtain ⟨hM, hno⟩ := hI
        have HM := Lib.hid hM
        have HNO := Lib.hid hno
        clear hM hno
        refine wpIn_fr (t' := frG w.heap.size #[.int .i64 6, .int .i64 n, .string s, .slice ak lk ck, .slice al ll cl] key (ks.getD x ByteArray.empty) (kid x).toArray undef undef) (by simp [frG]) ?_
        obtain ⟨nd5, end5⟩ : ∃ z : Array Value, z = #[.int .i64 6, .int .i64 n, .string s, .slice ak lk ck, .slice al ll cl] := ⟨_, rfl⟩
        obtain ⟨kx, ekx⟩ : ∃ z : List Value, z = kid x := ⟨_, rfl⟩
        obtain ⟨xs, exs⟩ : ∃ z : ByteArray, z = ks.getD x ByteArray.empty := ⟨_, rfl⟩
        have hkx := HK.out x
        rw [← end5, ← ekx, ← exs] at hgo ⊢
        rw [← ekx] at hkx
        have hlen5 := isNd_len hkx
        have hone5 := isNd_one hkx
        have hbW := HM.out.below
        refine wpIn_seq_k fun K2 hK2 => ?_
        refine wpIn_region_lit ?_
        refine wi_val (v := .string xs) (fun _ => trivial) (by simp) rfl rfl ?_
        refine wpListIn_nil (hK2 _ _ ?_)
        refine wpIn_region_lit ?_
        refine wi_val (v := .pointer (some ⟨W.heap.size, 0, none⟩)) (fun _ => trivial) (by simp) (run_alloc_of rfl (al_Nd W)) rfl ?_
        have hM2 := HM.out.new1 (.cells zeroC.toArray 25 (0, 0))
        refine wi_skip (fun _ => trivial) (by simp) (run_store_whole (hM2.get 0 rfl) rfl rfl rfl (by rw [hlen5]; exact rowNd) (by rw [hlen5]; rfl) hone5) rfl rfl ?_
        have hM3 := hM2.set (cs := kx.toArray) 0 rfl
        refine wpListIn_nil ?_
        have hbw : Below W.heap.size W ((W.alloc (.cells zeroC.toArray 25 (0, 0))).setRow W.heap.size kx.toArray) := (((Mem.start W).new1 (.cells zeroC.toArray 25 (0, 0))).set (cs := kx.toArray) 0 rfl).below
        refine hgo _ _ (below_keeps hbw _) ⟨hbw.mono hbW.size, fun hl => hbw.block _ hl⟩ ⟨by rw [end5]; exact HM.out.calls hbw, HNO.out⟩ ⟨W.heap.size, rfl, (Array.getElem?_eq_some_iff.1 (HM.out.get 0 rfl)).1, hM3.get 0 rfl⟩
      case body =>
        rintro l pre x a' W hl1 hloop ⟨hM, hno⟩ ⟨Bx, rfl, hBx, hcx⟩ hlen
        have HM := Lib.hid hM
        have HNO := Lib.hid hno
        clear hM hno
        obtain ⟨nd5, end5⟩ : ∃ z : Array Value, z = #[.int .i64 6, .int .i64 n, .string s, .slice ak lk ck, .slice al ll cl] := ⟨_, rfl⟩
        obtain ⟨kx, ekx⟩ : ∃ z : List Value, z = kid x := ⟨_, rfl⟩
        obtain ⟨xs, exs⟩ : ∃ z : ByteArray, z = ks.getD x ByteArray.empty := ⟨_, rfl⟩
        have hkx := HK.out x
        rw [← ekx] at hkx hcx
        rw [← end5] at HM
        rw [← end5, ← ekx, ← exs]
        have hlen5 := isNd_len hkx
        have hone5 := isNd_one hkx
        have hsz := (Array.getElem?_eq_some_iff.1 hnode).1
        refine wpIn_block ?_
        refine wpIn_seq_k fun K2 hK2 => ?_
        refine wpIn_region_lit ?_
        refine wi_val (v := .string xs) (fun _ => trivial) (by simp) rfl rfl ?_
        refine wi_val (v := .string key) (fun _ => trivial) (by simp) (run_load_cell rfl rfl (HM.out.get 3 rfl) rfl cellS) rfl ?_
        obtain ⟨z, ez⟩ : ∃ z : Bool, z = (xs.toList == key.toList) := ⟨_, rfl⟩
        refine wi_val (v := .bool z) (fun _ => trivial) (by simp) (by rw [ez]; rfl) rfl ?_
        refine wpListIn_nil (hK2 _ _ ?_)
        by_cases hc : xs = key
        · have hz : z = true := by rw [ez, hc]; simp
          subst hz
          refine wpIn_cond_true rfl ?_
          refine wpIn_seq_k fun K3 hK3 => ?_
          refine wpIn_region_lit ?_
          refine wi_val (v := .agg kx.toArray) (fun _ => trivial) (by simp) (run_load_row rfl rfl hcx (by rw [hlen5]; exact rowNd)) rfl ?_
          refine wi_skip (fun _ => trivial) (by simp) (run_store_whole (HM.out.get 2 rfl) rfl rfl rfl (by rw [hlen5]; exact rowNd) (by rw [hlen5]; rfl) hone5) rfl rfl ?_
          have hM2 := HM.out.set (cs := kx.toArray) 2 rfl
          refine wi_skip (fun _ => trivial) (by simp) (run_store_one (v := .bool true) (hM2.get 1 rfl) rfl rfl rfl cellB rfl) rfl rfl ?_
          have hM3 := hM2.set (cs := #[.bool true]) 1 rfl
          refine wpListIn_nil (hK3 _ _ ?_)
          refine wpIn_ret ?_
          have k1 := setRow_keeps W (w.heap.size + 1 + 1) W1.heap.size kx.toArray (by omega)
          have k2 := setRow_keeps (W.setRow (w.heap.size + 1 + 1) kx.toArray) (w.heap.size + 1 + 1 + 1) W1.heap.size #[.bool true] (by omega)
          refine ⟨⟨Nat.le_trans k1.size k2.size, fun k o hB hg hcl => k2.same k o hB (k1.same k o hB hg hcl) hcl⟩, rfl, x, pre, rfl, HNO.out, by rw [← exs]; exact hc, ?_⟩
          rw [← ekx]
          exact hM3
        · have hz : z = false := by rw [ez]; exact text_ne hc
          subst hz
          refine wpIn_cond_false rfl ?_
          refine wpIn_skip ?_
          refine ⟨⟨Nat.le_refl _, fun _ _ _ h _ => h⟩, ⟨Below.refl _ _, fun _ => rfl⟩, HM.out, ?_⟩
          intro y hy
          rcases List.mem_append.1 hy with h | h
          · exact HNO.out y h
          · rw [List.mem_singleton.1 h, ← exs]; exact hc
    · have b6 : (kind == 6) = false := by simpa using c6
      have hM0 := ((((Mem.start w).new1 (.cells #[.int .i64 kind, .int .i64 n, .string s, .slice ak lk ck, .slice al ll cl] 25 (0, 0))).new1 (.cells #[.string key] 9 (0, 0))).new1 (.cells zeroC.toArray 25 (0, 0))).new1 (.cells #[.bool false] 4 (0, 0))
      simp only [World.size_alloc] at hM0
      have HM := Lib.hid hM0
      clear hM0
      have hz : (Nd.mk kind n s ks ls).get key = zeroNd ∧ (Nd.mk kind n s ks ls).has key = false := by
        have h := at_kind (n := n) (s := s) (key := key) (ks := ks) (ls := ls) c6
        unfold Nd.get Nd.has
        rw [h]
        exact ⟨rfl, rfl⟩
      have HZ := Lib.hid hz
      clear hz
      go_wp2_with fail
      refine ⟨.tuple #[.agg zeroC.toArray, .bool false], results_cc rfl rfl rfl (HM.out.load 1 rfl rowNd) (load_cell (HM.out.get 0 rfl) rfl cellB), zeroC, ?_, ?_, HM.out.below⟩
      · rw [HZ.out.1]; exact isNd_zero w0
      · rw [HZ.out.2]
theorem tget_any (w : World) (cs : List Value) (N : Nd) (h : IsNd w cs N) (key : ByteArray) :
    Calls Try.prog 43 #[.agg cs.toArray, .string key] w fun e w' => ∃ cs', IsNd w cs' (N.get key) ∧ e = .returned (.tuple #[.agg cs'.toArray, .bool (N.has key)]) ∧ Below w.heap.size w w' :=
  tget_from w w cs N h (Below.refl _ _) key
end Go.Proofs.Ytbheiglbejokmaa
