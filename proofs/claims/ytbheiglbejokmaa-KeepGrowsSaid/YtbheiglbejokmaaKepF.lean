/- keep.Content (layer 32). -/
import Derived.Test.YtbheiglbejokmaaKepE
namespace Go.Proofs.Ytbheiglbejokmaa
set_option maxRecDepth 20000
set_option linter.unusedSimpArgs false
set_option linter.unusedVariables false
open Go.RowKit Go.Sort Go.Lib Go.MapKept
attribute [local go_sem] Oper.semAt_some
/-- What a look-up answers, with its texts. -/
theorem look_val {w0 w : World} {bx b : Nat} {L : List Ent} (h : KM w0 w bx b L) (hN : ∀ E ∈ L, E.xs.length ≤ 20) (kind : ByteArray) (S : List (ByteArray × List ByteArray)) (hS : L.map Ent.ent = S) :
    ∃ r v, Instr.findNow .string (.string kind) (ents L).toList 0 = some r ∧ v = (lookR (.slice none 0 0) r).1 ∧ TxAt w v (look S kind) ∧ (∀ g a c, v = .slice (some ⟨g, 0, none⟩) a c → w0.heap.size ≤ g) ∧ (look S kind).length ≤ 1000 := by
  subst hS
  rcases ents_find L kind with ⟨hf, hno⟩ | ⟨L1, E, L2, rfl, hk, hf⟩
  · refine ⟨none, _, hf, rfl, .inl ⟨rfl, ?_⟩, (fun g a c h => by cases h), ?_⟩
    · refine look_new _ _ fun p hp => ?_
      obtain ⟨E, hE, rfl⟩ := List.mem_map.1 hp
      exact hno E hE
    · rw [look_new]
      · exact Nat.zero_le _
      · intro p hp
        obtain ⟨E, hE, rfl⟩ := List.mem_map.1 hp
        exact hno E hE
  · have hEm : E ∈ L1 ++ E :: L2 := by simp
    have hno1 : ∀ p ∈ L1.map Ent.ent, p.1 ≠ kind := by
      intro p hp
      obtain ⟨F, hF, rfl⟩ := List.mem_map.1 hp
      have hnod := h.nod
      rw [List.map_append, List.nodup_append] at hnod
      have h3 := hnod.2.2 F.key (List.mem_map_of_mem hF) E.key (by simp)
      rw [← hk]
      exact h3
    have hlk : look ((L1 ++ E :: L2).map Ent.ent) kind = E.xs := by
      rw [List.map_append, List.map_cons, show E.ent = (kind, E.xs) from by rw [← hk]; rfl, look_old _ _ _ _ hno1]
    have hok := h.ok E hEm
    have hbm : Ent.blk 9 E ∈ (bx, Obj.cells #[.map (some b)] 86 (0, 0)) :: (b, .map (ents (L1 ++ E :: L2)) (L1 ++ E :: L2).length) :: (L1 ++ E :: L2).map (Ent.blk 9) := List.mem_cons_of_mem _ (List.mem_cons_of_mem _ (List.mem_map_of_mem hEm))
    rw [hlk]
    refine ⟨_, _, hf, rfl, .inr ⟨E.g, E.cap, _, rfl, hok.le, hok.max, h.mem.at_ _ hbm, ?_, ?_⟩, ?_, Nat.le_trans (hN E hEm) (by decide)⟩
    · have := hok.all
      rw [List.size_toArray, this, Nat.mul_one]
    · show List.take E.xs.length (vsT E.xs ++ E.r) = vsT E.xs
      rw [← vsT_len E.xs]
      exact List.take_left
    · intro g a c hv
      have h4 := h.mem.low _ hbm
      injection hv with e1
      injection e1 with e2
      injection e2 with e3
      rw [← e3]
      exact h4
def verB (v : Int) : Bool := decide (1 ≤ v ∧ v ≤ 11)
def allB (v : Int) (kind : ByteArray) : Bool := verB v && (gF v && decide (kind = kk_cre))
def contL (v : Int) (kind : ByteArray) : List ByteArray := if verB v then (if allB v kind then [] else srt (look (keptL (gD v) (gC v) (gE v) (gF v)) kind)) else []
theorem rowRules : RowTy Try.prog 80 7 := ⟨.inl ⟨_, Try.underlying80⟩, by kernel_rfl⟩
set_option maxHeartbeats 2000000 in
theorem content_any (w : World) (v : Int) (kind : ByteArray) :
    Calls Try.prog 22 #[.int .i64 v, .string kind] w fun e w' => ∃ x, e = .returned (.tuple #[x, .bool (allB v kind)]) ∧ TxAt w' x (contL v kind) ∧ Below w.heap.size w w' := by
  rcases hv : verB v with _ | _
  · have e0 : (ev v == 0) = false := by
      have : ¬ (1 ≤ v ∧ v ≤ 11) := by simpa [verB] using hv
      simp [ev, this]
    have hB : allB v kind = false := by simp [allB, hv]
    have hL : contL v kind = [] := by simp [contL, hv]
    rw [hB, hL]
    clear hv hB hL
    go_enter Try.func22, Try.ntmps22
    go_wp2_with (go_at_call 49; refine (vof_any _ _).mono ?_; rintro e w' ⟨rfl, rfl⟩)
    exact bodyPost_ret (results_tt rfl rfl rfl) rfl ⟨_, rfl, .inl ⟨rfl, rfl⟩, gr_alloc (gr_alloc (Below.refl _ _) _) _⟩
  · have e0 : (ev v == 0) = true := by
      have : 1 ≤ v ∧ v ≤ 11 := by simpa [verB] using hv
      simp [ev, this]
    have e1 : (ev v != 0) = false := by
      have : 1 ≤ v ∧ v ≤ 11 := by simpa [verB] using hv
      simp [ev, this]
    rcases hA : allB v kind with _ | _
    · have hL : contL v kind = srt (look (keptL (gD v) (gC v) (gE v) (gF v)) kind) := by simp [contL, hv, hA]
      rw [hL]
      have hcs : (gF v = false) ∨ (gF v = true ∧ decide (kind = kk_cre) = false) := by
        rcases h : gF v with _ | _
        · exact .inl rfl
        · refine .inr ⟨rfl, ?_⟩
          simpa [allB, hv, h] using hA
      have h1 := is_cre kind
      obtain ⟨l, el⟩ : ∃ z, z = look (keptL (gD v) (gC v) (gE v) (gF v)) kind := ⟨_, rfl⟩
      rw [← el]
      have EL := Lib.hid el
      clear hv hA hL el
      rcases hcs with hF | ⟨hF, h2⟩
      · have HF := Lib.hid hF
        clear h1
        clear hF
        go_enter Try.func22, Try.ntmps22
        go_upto_region 6 with (go_at_call 49; refine (vof_any _ _).mono ?_; rintro e w1 ⟨rfl, hw1⟩; rw [HF.out] at hw1 ⊢; have hb1 : Below w.heap.size w w1 := hw1 ▸ gr_alloc (Below.refl _ _) _; clear hw1)
        have hM2 := ((Mem.start w).calls hb1).new1 (.cells #[.bool (gA v), .bool (gA v), .bool (gB v), .bool (gC v), .bool (gD v), .bool (gE v), .bool false] 80 (0, 0))
        generalize eW2 : w1.alloc _ = W2 at hM2 ⊢
        generalize erb : w1.heap.size = rb at hM2 ⊢
        refine wp_region_lit ?_
        refine wl_row hM2 0 (v := .agg #[.bool (gA v), .bool (gA v), .bool (gB v), .bool (gC v), .bool (gD v), .bool (gE v), .bool false]) rfl rfl rfl rfl rowRules rfl ?_
        simp only [nm0, nm1, nm2, nm3]
        refine wl_callX (args := #[.agg #[.bool (gA v), .bool (gA v), .bool (gB v), .bool (gC v), .bool (gD v), .bool (gE v), .bool false]]) (fun W => run_call_fn W (enters_of Try.func52 (by kernel_rfl) rfl) rfl (by simp [Act.eval]; try rfl)) (kept_any W2 (gA v) (gA v) (gB v) (gC v) (gD v) (gE v) false) rfl ?_
        rintro e W3 ⟨bx, b, L, rfl, hb3, hlb, hK, hL, hN⟩
        refine ⟨_, rfl, ?_⟩
        simp only [nm0, nm1, nm2, nm3]
        obtain ⟨r, x, hf, hx, hT, hg, hlen⟩ := look_val hK hN kind _ hL
        refine wl_pure (v := .string kind) (fun W => rfl) rfl ?_
        simp only [nm0, nm1, nm2, nm3]
        refine wl_val (v := x) (run_look_of (c := false) (key := .string kind) rfl rfl rfl un_kept Try.underlying9 (hK.mem.get 1 rfl) (isKey_string _) (zero_strs _) hf hx) rfl ?_
        simp only [nm0, nm1, nm2, nm3]
        refine wl_pure (v := x) (fun W => rfl) rfl ?_
        simp only [nm0, nm1, nm2, nm3]
        refine wpList_nil ?_
        rw [show look (keptL (gD v) (gC v) (gE v) false) kind = l from by rw [EL.out, HF.out]] at hT hlen
        have CS := Lib.hid (sort_any w W3 x l hT (hM2.calls hb3).below (fun g a c h => Nat.le_trans hM2.below.size (hg g a c h)) hlen)
        clear hT hg hlen hx hf hK hL hN hlb hb3 hM2 eW2 erb hb1
        go_wp2_with (go_at_call 50; refine CS.out.mono ?_; rintro e W4 ⟨rfl, hT4, hb4⟩)
        exact bodyPost_ret (results_tt rfl rfl rfl) rfl ⟨x, rfl, hT4, hb4⟩
      · rw [h2] at h1
        clear h2
        have HF := Lib.hid hF
        clear hF
        go_enter Try.func22, Try.ntmps22
        go_upto_region 6 with (go_at_call 49; refine (vof_any _ _).mono ?_; rintro e w1 ⟨rfl, hw1⟩; rw [HF.out] at hw1 ⊢; have hb1 : Below w.heap.size w w1 := hw1 ▸ gr_alloc (Below.refl _ _) _; clear hw1)
        have hM2 := ((Mem.start w).calls hb1).new1 (.cells #[.bool (gA v), .bool (gA v), .bool (gB v), .bool (gC v), .bool (gD v), .bool (gE v), .bool true] 80 (0, 0))
        generalize eW2 : w1.alloc _ = W2 at hM2 ⊢
        generalize erb : w1.heap.size = rb at hM2 ⊢
        refine wp_region_lit ?_
        refine wl_row hM2 0 (v := .agg #[.bool (gA v), .bool (gA v), .bool (gB v), .bool (gC v), .bool (gD v), .bool (gE v), .bool true]) rfl rfl rfl rfl rowRules rfl ?_
        simp only [nm0, nm1, nm2, nm3]
        refine wl_callX (args := #[.agg #[.bool (gA v), .bool (gA v), .bool (gB v), .bool (gC v), .bool (gD v), .bool (gE v), .bool true]]) (fun W => run_call_fn W (enters_of Try.func52 (by kernel_rfl) rfl) rfl (by simp [Act.eval]; try rfl)) (kept_any W2 (gA v) (gA v) (gB v) (gC v) (gD v) (gE v) true) rfl ?_
        rintro e W3 ⟨bx, b, L, rfl, hb3, hlb, hK, hL, hN⟩
        refine ⟨_, rfl, ?_⟩
        simp only [nm0, nm1, nm2, nm3]
        obtain ⟨r, x, hf, hx, hT, hg, hlen⟩ := look_val hK hN kind _ hL
        refine wl_pure (v := .string kind) (fun W => rfl) rfl ?_
        simp only [nm0, nm1, nm2, nm3]
        refine wl_val (v := x) (run_look_of (c := false) (key := .string kind) rfl rfl rfl un_kept Try.underlying9 (hK.mem.get 1 rfl) (isKey_string _) (zero_strs _) hf hx) rfl ?_
        simp only [nm0, nm1, nm2, nm3]
        refine wl_pure (v := x) (fun W => rfl) rfl ?_
        simp only [nm0, nm1, nm2, nm3]
        refine wpList_nil ?_
        rw [show look (keptL (gD v) (gC v) (gE v) true) kind = l from by rw [EL.out, HF.out]] at hT hlen
        have CS := Lib.hid (sort_any w W3 x l hT (hM2.calls hb3).below (fun g a c h => Nat.le_trans hM2.below.size (hg g a c h)) hlen)
        clear hT hg hlen hx hf hK hL hN hlb hb3 hM2 eW2 erb hb1
        go_wp2_with (go_at_call 50; refine CS.out.mono ?_; rintro e W4 ⟨rfl, hT4, hb4⟩)
        exact bodyPost_ret (results_tt rfl rfl rfl) rfl ⟨x, rfl, hT4, hb4⟩
    · have hF : gF v = true := by
        rcases h : gF v with _ | _
        · simp [allB, h] at hA
        · rfl
      have h1 := is_cre kind
      have h2 : decide (kind = kk_cre) = true := by simpa [allB, hv, hF] using hA
      rw [h2] at h1
      have hL : contL v kind = [] := by simp [contL, hv, hA]
      rw [hL]
      have HF := Lib.hid hF
      clear hv hA hL h2 hF
      go_enter Try.func22, Try.ntmps22
      go_wp2_with (go_at_call 49; refine (vof_any _ _).mono ?_; rintro e w' ⟨rfl, rfl⟩; rw [HF.out])
      exact bodyPost_ret (results_tt rfl rfl rfl) rfl ⟨_, rfl, .inl ⟨rfl, rfl⟩, gr_alloc (gr_alloc (Below.refl _ _) _) _⟩
end Go.Proofs.Ytbheiglbejokmaa
