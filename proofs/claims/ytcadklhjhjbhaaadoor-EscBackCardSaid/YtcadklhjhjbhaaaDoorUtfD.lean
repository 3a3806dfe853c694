/- utf.Valid (layer 3): what it answers. -/
import Derived.Test.YtcadklhjhjbhaaaDoorUtfC
namespace Go.Proofs.YtcadklhjhjbhaaaDoor
set_option maxRecDepth 20000
set_option linter.unusedSimpArgs false
set_option linter.unusedVariables false
open Go.RowKit Go.Lib Go.Shelf
attribute [local go_sem] Oper.semAt_some
/-- Where the last code point that was told ends. -/
def endZ (l : List (Nat × Nat)) : Int := l.foldl (fun _ x => wrap64 ((x.1 : Int) + Lib.runeLen (x.2 : Int))) 0
theorem endZ_snoc (pre : List (Nat × Nat)) (x : Nat × Nat) : endZ (pre ++ [x]) = wrap64 ((x.1 : Int) + Lib.runeLen (x.2 : Int)) := by simp [endZ]
theorem tabs_low {n₀ : Nat} {w w' : World} (hn : Tryd.lays197_ren.g 3 < n₀ ∧ Tryd.lays197_ren.g 4 < n₀) (h : Tabs w) (hb : Below n₀ w w') : Tabs w' := by
  obtain ⟨h1, h2⟩ := h
  exact ⟨fun c hc => (hb.cell (p := ⟨_, c, none⟩) hn.1).trans (h1 c hc),
    fun i hi => ⟨(hb.cell (p := ⟨_, 2 * i, none⟩) hn.2).trans (h2 i hi).1, (hb.cell (p := ⟨_, 2 * i + 1, none⟩) hn.2).trans (h2 i hi).2⟩⟩
theorem tabs_size {w : World} (h : Tabs w) : Tryd.lays197_ren.g 3 < w.heap.size ∧ Tryd.lays197_ren.g 4 < w.heap.size := by
  have hlt : ∀ {b o : Nat} {v : Value}, w.cell? ⟨b, o, none⟩ = some v → b < w.heap.size := fun {b o v} h => by
    apply Nat.lt_of_not_le
    intro hle
    simp [World.cell?, Array.getElem?_eq_none hle] at h
  exact ⟨hlt (h.1 0 (by decide)), hlt (h.2 0 (by decide)).1⟩
theorem cell_new_l (W : World) (v : Value) (t : TypeId) : (W.alloc (.cells #[v] t)).cell? ⟨W.heap.size, 0, none⟩ = some v ∧ (W.alloc (.cells #[v] t)).frozen? ⟨W.heap.size, 0, none⟩ = false := by
  have h : (W.alloc (.cells #[v] t)).heap[W.heap.size]? = some (.cells #[v] t (0, 0)) := World.alloc_heap_new W _
  exact ⟨by unfold World.cell?; rw [show (W.alloc (.cells #[v] t)).heap[(⟨W.heap.size, 0, none⟩ : Addr).block]? = _ from h]; rfl,
    by unfold World.frozen?; rw [show (W.alloc (.cells #[v] t)).heap[(⟨W.heap.size, 0, none⟩ : Addr).block]? = _ from h]; rfl⟩
theorem blk_of_cell {W : World} {a : Addr} {v : Value} (h : W.cell? a = some v) : a.block < W.heap.size := by
  apply Nat.lt_of_not_le
  intro hle
  unfold World.cell? at h
  rw [Array.getElem?_eq_none hle] at h
  cases h
theorem cell_alloc_l {W : World} {a : Addr} {v : Value} (o : Obj) (h : W.cell? a = some v) : (W.alloc o).cell? a = some v :=
  (World.cell?_of_block (w := W) (a := a) (Below.heap_alloc W o a.block (blk_of_cell h))).trans h
theorem frozen_alloc_l {W : World} {a : Addr} {v : Value} (o : Obj) (h : W.cell? a = some v) (hf : W.frozen? a = false) : (W.alloc o).frozen? a = false :=
  (World.frozen?_of_block (w := W) (a := a) (Below.heap_alloc W o a.block (blk_of_cell h))).trans hf
set_option maxRecDepth 100000 in
set_option maxHeartbeats 2000000 in
theorem valid_in (n : Nat) (hn : 3 ≤ n) (s : ByteArray) (hs : s.size ≤ 100000) (w : World) (hT : Tabs w) :
    CallsIn Fence.wide n Tryd.prog 22 #[.string s] w fun e w' => e = .returned (.bool (decide (endZ (cpsAt s.data.toList 0) = (s.size : Int)))) ∧ Below w.heap.size w w' := by
  have h1 : 1 ≤ n := by omega
  have hw2 := tabs_size hT
  have KA : ∀ w, CallsIn Fence.wide (n - 1) Tryd.prog 44 #[.string s] w fun e w' => e = .returned (.func (.func 62) #[] #[.pointer (some ⟨w.heap.size, 0, none⟩)]) ∧ w' = w.alloc (.cells #[.string s] 9) := fun w => callsIn_wide.2 (all_any s w)
  refine callsIn_of_wp_marks Tryd.func22 rfl trivial ?_ rfl
  simp only [Tryd.ntmps22, List.size_toArray, List.length_cons, List.length_nil, Nat.reduceAdd, Nat.reduceSub, Array.replicate_succ, Array.replicate_zero, List.push_toArray, List.append_toArray, List.nil_append, List.cons_append]
  gi_wp2
  refine ⟨trivial, (KA _).mono ?_⟩
  rintro e w' ⟨rfl, rfl⟩
  gi_wp2
  have hs0 := cell_new_l w (.int .i64 0) 3
  have hb0 := cell_new_l (w.alloc (.cells #[.int .i64 0] 3)) (.string s) 9
  rw [World.size_alloc] at hb0
  have hB0 : Below w.heap.size w ((w.alloc (.cells #[.int .i64 0] 3)).alloc (.cells #[.string s] 9)) := ((Below.refl _ w).alloc (Nat.le_refl _) _).alloc (by simp) _
  refine wpIn_rangeFunc_ownF rfl h1 (gf := 62) (lb := #[.pointer (some ⟨w.heap.size + 1, 0, none⟩)]) rfl trivial (enters_of Tryd.func62 (by kernel_rfl) rfl)
    (all_stops (n - 1) (by omega) (w.heap.size + 1) w.heap.size s hs _ (by simp; omega) hb0.1 (fun W' h => tabs_low hw2 hT (hB0.trans h))) kpV_t (kpV_b (by simp; omega) (by simp)) (Below.refl _ _) (fun _ => rfl)
    (fun pre W => (W.cell? ⟨w.heap.size, 0, none⟩ = some (.int .i64 (endZ pre)) ∧ W.frozen? ⟨w.heap.size, 0, none⟩ = false) ∧ Below w.heap.size w W)
    (fun _ _ _ => False)
    (OwnFrom.and (Own.from (fun s A B row hs hg hr => ⟨cell_kept hs.1 hg hr, (frozen_kept hs.1 hg hr).trans hs.2⟩) _) (ownFrom_below (Nat.le_refl _) (by simp; omega)))
    (fun _ _ _ _ _ hs _ _ => hs)
    ⟨⟨cell_alloc_l _ hs0.1, frozen_alloc_l _ hs0.1 hs0.2⟩, hB0⟩
    (fun x => { tmps := #[.string s, undef, .bool false, .pointer (some ⟨w.heap.size, 0, none⟩), .int .i64 (x.1 : Int), .int .i32 (x.2 : Int), .string s, .func (.func 62) #[] #[.pointer (some ⟨w.heap.size + 1, 0, none⟩)], .int .i64 (x.1 : Int), .int .i32 (x.2 : Int), undef, undef, undef, undef, undef, undef, undef, undef], defers := [] }) ?assign ?body ?done ?stop
  case assign =>
    intro l x W K hK
    gi_wp2
    exact hK
  case body =>
    rintro l pre x W ⟨⟨hc, hf⟩, hB⟩ _
    have KR : ∀ w m, CallsIn (Fence.wide.inRound l) m Tryd.prog 45 #[.int .i32 (x.2 : Int)] w fun e w' => e = .returned (.int .i64 (Lib.runeLen (x.2 : Int))) ∧ w' = w := fun w m => CallsIn.inRound l (callsIn_wide.2 (Tryd.utf8_RuneLen (x.2 : Int) w))
    gi_wp2
    refine ⟨trivial, fun _ => by omega, (KR _ _).mono ?_⟩
    rintro e w' ⟨rfl, rfl⟩
    gi_wp2
    exact ⟨KeepsOthers.setCell _ _ _, ⟨(Below.refl w.heap.size w').setCell (p := ⟨w.heap.size, 0, none⟩) (Nat.le_refl _) _, fun _ => Below.heap_setCell w' ⟨w.heap.size, 0, none⟩ _ _ (by show w.heap.size + 1 ≠ w.heap.size; omega)⟩,
      ⟨by rw [endZ_snoc]; exact World.cell?_setCell_same' _ _ _ (by rw [hc]; rfl), by rw [World.frozen?_setCell]; exact hf⟩, hB.setCell (p := ⟨w.heap.size, 0, none⟩) (Nat.le_refl _) _⟩
  case done =>
    rintro D ys W hD rfl ⟨⟨hc, _⟩, hB⟩ hK
    gi_wp2
    refine ⟨by simp, .inl ⟨_, _, rfl, run_takeDeferred hK, ?_⟩⟩
    refine ⟨_, results_tmp rfl _ _ _, ?_, hB.trans (belowK_b (w := w) (Nat.le_refl _) W D _ _ (by simp at hD; omega) hK rfl rfl)⟩
    exact ret_bool (by rw [Bool.eq_iff_iff]; simp)
  case stop =>
    rintro D c pre W _ _ h _
    exact h.elim
/-- Are some bytes forms, to their end? -/
def validB (l : List UInt8) : Bool := decide (endZ (cpsAt l 0) = (l.length : Int))
theorem valid_any (s : ByteArray) (hs : s.size ≤ 100000) (w : World) (hT : Tabs w) :
    Calls Tryd.prog 22 #[.string s] w fun e w' => e = .returned (.bool (validB s.data.toList)) ∧ Below w.heap.size w w' := by
  have h := callsIn_wide.1 (valid_in 3 (Nat.le_refl _) s hs w hT)
  unfold validB
  rw [← Lib.size_eq s]
  exact h
end Go.Proofs.YtcadklhjhjbhaaaDoor
