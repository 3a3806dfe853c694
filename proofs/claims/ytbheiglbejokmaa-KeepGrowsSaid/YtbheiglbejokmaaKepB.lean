/- keep.kept's function: one more text by a key (layer 32). -/
import Derived.Test.YtbheiglbejokmaaKepA
namespace Go.Proofs.Ytbheiglbejokmaa
set_option maxRecDepth 20000
set_option linter.unusedSimpArgs false
set_option linter.unusedVariables false
open Go.RowKit Go.Sort Go.Lib Go.MapKept
attribute [local go_sem] Oper.semAt_some
/-- The map, in its box, with its rows. -/
structure KM (w0 w : World) (bx b : Nat) (L : List Ent) : Prop where
  mem : Mem w0 ((bx, .cells #[.map (some b)] 86 (0, 0)) :: (b, .map (ents L) L.length) :: L.map (Ent.blk 9)) w
  ok : ∀ E ∈ L, RowOk (vsT E.xs) E.r 1 E.xs.length E.cap
  nod : (L.map Ent.key).Nodup
theorem un_kept : Try.prog.underlying 86 = some (.map 9 22) := Try.underlying86
theorem zero_strs (w : World) : (zeroValue 22).run Try.prog w = .ok (.slice none 0 0) w := by kernel_rfl
theorem cellKept : CellTy Try.prog 86 := ⟨⟨_, Try.underlying86, rfl⟩, by kernel_rfl⟩
section
variable {P : Program} {w w0 : World} {M : List Blk} {o : Oper} {A : Act} {ops : Array Oper} {md : Region.Mode} {Q : Exit → Act → World → Prop} {S : World → Prop} {st n fuel : Nat} {l : Array Bool}
/-- A new key, in a region that draws. -/
theorem hop_ins (hn : ops[n]? = some o) (hM : Mem w0 M w) (i : Nat) {t k e : TypeId} {d : TypeDesc} {m x y : Operand} {b : Nat} {es es' : Array MapEntry} {ck ck' : Nat} {key val : Value} (ho : o.op = .insert t m x y ∨ o.op = .mapUpdate t m x y) (hm : A.eval m = .map (some b)) (hx : A.eval x = key) (hy : A.eval y = val) (hi : M[i]? = some (b, .map es ck)) (ht : P.underlying t = some (.map k e)) (hd : P.underlying k = some d) (hk : IsKey d key) (hf : Instr.findNow d key es.toList 0 = some none) (he : es.push ⟨key, val, ck⟩ = es') (hck : ck + 1 = ck') (hgd : o.guard = none) (hds : o.dst = none)
    (L : Array Bool) (hL : l.setIfInBounds n true = L) (hst : L.getD st true = true) (hr : ∀ W, Mem w0 (M.set i (b, .map es' ck')) W → Hold P md ops Q S st fuel L A W) :
    Go.wpOp P ops Q n (fun a' w' => ((l.setIfInBounds n true).getD st true = false → S w') ∧ Hold P md ops Q S st fuel (l.setIfInBounds n true) a' w') A w := by
  unfold Go.wpOp
  simp only [hn]
  rw [if_pos (by simp [Region.wanted, hgd]), hL]
  refine .inl (wp_ins hM i ho hm hx hy hi ht hd hk hf he hck fun W hW => ?_)
  rw [hds]
  exact ⟨(fun h => by rw [hst] at h; cases h), hr W hW⟩
/-- .. a key that is there. -/
theorem hop_upd (hn : ops[n]? = some o) (hM : Mem w0 M w) (i : Nat) {t k e : TypeId} {d : TypeDesc} {m x y : Operand} {b : Nat} {es es' : Array MapEntry} {ck : Nat} {key val : Value} (ho : o.op = .mapUpdate t m x y) (hm : A.eval m = .map (some b)) (hx : A.eval x = key) (hy : A.eval y = val) (hi : M[i]? = some (b, .map es ck)) (ht : P.underlying t = some (.map k e)) (hd : P.underlying k = some d) (hk : IsKey d key) {j : Nat} {x0 : Value} (hf : Instr.findNow d key es.toList 0 = some (some (j, x0))) (hj : (es[j]?).map (·.key) = some key) (he : (es.modify j fun e => { e with key := key, val := val }) = es') (hgd : o.guard = none) (hds : o.dst = none)
    (L : Array Bool) (hL : l.setIfInBounds n true = L) (hst : L.getD st true = true) (hr : ∀ W, Mem w0 (M.set i (b, .map es' ck)) W → Hold P md ops Q S st fuel L A W) :
    Go.wpOp P ops Q n (fun a' w' => ((l.setIfInBounds n true).getD st true = false → S w') ∧ Hold P md ops Q S st fuel (l.setIfInBounds n true) a' w') A w := by
  subst he
  unfold Go.wpOp
  simp only [hn]
  rw [if_pos (by simp [Region.wanted, hgd]), hL]
  have hrun := run_update_old ht hd (hM.get i hi) (val := val) hk hf hj
  refine .inl ?_
  unfold Oper.wp execOp
  simp only [ho, hm, hx, hy, Sem.run_bind, hrun, Result.andThen_ok]
  refine ⟨(fun h => by rw [hst] at h; cases h), ?_⟩
  have h2 := hr _ (hM.setO i hi)
  rw [show o.dst = none from hds]
  exact h2
end
theorem results_u1 {P : Program} {w : World} {fn : Func} {tmps : Array Value} (h : fn.results = #[]) : (results fn tmps).run P w = .ok (.tuple #[]) w := by
  simp [results, h]
/-- What an update makes of the entries. -/
def upOf (es : Array MapEntry) (ck : Nat) (r : Option (Nat × Value)) (k v : Value) : Array MapEntry × Nat := match r with
  | none => (es.push ⟨k, v, ck⟩, ck + 1)
  | some (j, _) => (es.modify j fun e => { e with key := k, val := v }, ck)
/-- The function, told to. -/
theorem add1_any (w0 w : World) (bx b ck n : Nat) (es : Array MapEntry) (kind key : ByteArray) (r : Option (Nat × Value)) (v : Value) (xs : List ByteArray) (B Mr : List Blk) (hM : Mem w0 (B ++ ((bx, .cells #[.map (some b)] 86 (0, 0)) :: (b, .map es ck) :: Mr)) w)
    (hf : Instr.findNow .string (.string kind) es.toList 0 = some r) (hv : (lookR (.slice none 0 0) r).1 = v) (hR : Row0 9 1 v n (vsT xs) B) (hn : n ≤ 1000) (hr : ∀ p, r = some p → (es[p.1]?).map (·.key) = some (.string kind)) :
    Calls Try.prog 68 #[.bool true, .string kind, .string key, .pointer (some ⟨bx, 0, none⟩)] w fun e w' => e = .returned (.tuple #[]) ∧ ∃ g cap rr, RowOk (vsT (xs ++ [key])) rr 1 (n + 1) cap ∧
      Mem w0 ((g, .cells (vsT (xs ++ [key]) ++ rr).toArray 9 (0, 0)) :: (bx, .cells #[.map (some b)] 86 (0, 0)) :: (b, .map (upOf es ck r (.string kind) (.slice (some ⟨g, 0, none⟩) (n + 1) cap)).1 (upOf es ck r (.string kind) (.slice (some ⟨g, 0, none⟩) (n + 1) cap)).2) :: Mr) w' := by
  have HMIX := Lib.hid (show Try.prog.follows .mixedOrders = true by kernel_rfl)
  obtain ⟨i0, hi, hz0, hz1, hz2⟩ := info_parts Try.info_str
  have HI := Lib.hid hi
  have HF := Lib.hid hf
  have HV := Lib.hid hv
  have HR := Lib.hid hr
  have HN := Lib.hid hn
  clear hf hv hr hn
  go_enter Try.func68, Try.ntmps68
  · go_upto_region 1 with fail
    have hMd := hM.drew
    refine wp_region_noPanic (hold_begin (S := fun W => W.heap[bx]? = some (.cells #[.map (some b)] 86 (0, 0)) ∧ W.heap[b]? = some (.map es ck)) (st := 8) HMIX.out ?_)
    change Hold _ _ _ _ _ _ 9 _ _ _
    generalize eV0 : w.drew = V0 at hMd ⊢
    have hV0 := hMd
    clear hMd
    have hS0 : V0.heap[bx]? = some (.cells #[.map (some b)] 86 (0, 0)) ∧ V0.heap[b]? = some (.map es ck) := ⟨hV0.at_ (bx, _) (by simp), hV0.at_ (b, _) (by simp)⟩
    refine hl_pure 1 9 #[false, true, false, false, false, false, false, false, false] (by kernel_rfl) (v := .string kind) rfl rfl (by kernel_rfl) rfl (by kernel_rfl) (by kernel_rfl) rfl (fun W => rfl) hS0 ?_
    simp only [nm0, nm1, nm2, nm3]
    refine hl_pure 3 11 #[false, true, false, true, false, false, false, false, false] (by kernel_rfl) (v := .string kind) rfl rfl (by kernel_rfl) rfl (by kernel_rfl) (by kernel_rfl) rfl (fun W => rfl) hS0 ?_
    simp only [nm0, nm1, nm2, nm3]
    refine hl_pure 5 13 #[false, true, false, true, false, true, false, false, false] (by kernel_rfl) (v := .string key) rfl rfl (by kernel_rfl) rfl (by kernel_rfl) (by kernel_rfl) rfl (fun W => rfl) hS0 ?_
    simp only [nm0, nm1, nm2, nm3]
    refine hl_take 0 8 [8] #[true, true, false, true, false, true, false, false, false] (by kernel_rfl) (v := .map (some b)) rfl rfl (by kernel_rfl) (by kernel_rfl) (by kernel_rfl) (by kernel_rfl) (by kernel_rfl) (by kernel_rfl) rfl (fun W hW => run_load_cell rfl rfl hW.1 rfl cellKept) hS0 ?_
    simp only [nm0, nm1, nm2, nm3]
    refine hl_take 2 10 [4, 7, 8] #[true, true, true, true, false, true, false, false, false] (by kernel_rfl) (v := .map (some b)) rfl rfl (by kernel_rfl) (by kernel_rfl) (by kernel_rfl) (by kernel_rfl) (by kernel_rfl) (by kernel_rfl) rfl (fun W hW => run_load_cell rfl rfl hW.1 rfl cellKept) hS0 ?_
    simp only [nm0, nm1, nm2, nm3]
    refine hl_take 4 12 [7, 8] #[true, true, true, true, true, true, false, false, false] (by kernel_rfl) (v := v) rfl rfl (by kernel_rfl) (by kernel_rfl) (by kernel_rfl) (by kernel_rfl) (by kernel_rfl) (by kernel_rfl) rfl (fun W hW => run_look_of (c := false) (key := .string kind) rfl rfl rfl un_kept Try.underlying9 hW.2 (isKey_string _) (zero_strs W) HF.out HV.out.symm) hS0 ?_
    simp only [nm0, nm1, nm2, nm3]
    refine hold_next (rs := [6]) (by kernel_rfl) (by simp) ?_
    intro i hi
    simp only [List.mem_cons, List.not_mem_nil, or_false] at hi
    subst hi
    refine hop_new (d := 14) (f := fun b => .slice (some ⟨b, 0, none⟩) 1 1) (ob := .cells #[.string key] 9 (0, 0)) rfl rfl rfl hV0 (fun W => run_slice_of rfl (by simp [Act.eval]; try rfl) (bs_str key W)) #[true, true, true, true, true, true, true, false, false] (by kernel_rfl) fun bs V1 hV1 => ⟨⟨hV1.at_ (bx, _) (by simp), hV1.at_ (b, _) (by simp)⟩, ?_⟩
    simp only [nm0, nm1, nm2, nm3]
    refine hold_next (rs := [7]) (by kernel_rfl) (by simp) ?_
    intro i hi
    simp only [List.mem_cons, List.not_mem_nil, or_false] at hi
    subst hi
    have hV1b : Mem w0 (B ++ ((bs, .cells #[.string key] 9 (0, 0)) :: (bx, .cells #[.map (some b)] 86 (0, 0)) :: (b, .map es ck) :: Mr)) V1 := hV1.perm List.perm_middle
    refine hop_app (d := 15) rfl rfl rfl hV1b hR rfl Try.underlying22 hi hz0 hz1 hz2 rfl (by decide) rfl (news := [.string key]) rfl (hV1.get 0 rfl) (by decide) rfl (by simp [Value.oneCell']) (by have := HN.out; unfold maxLen; omega) (by have := HN.out; omega) #[true, true, true, true, true, true, true, true, false] (by kernel_rfl) fun v' B' V2 hR2 hV2 => ⟨⟨hV2.at_ (bx, _) (by simp), hV2.at_ (b, _) (by simp)⟩, ?_⟩
    simp only [nm0, nm1, nm2, nm3]
    refine hold_next (rs := [8]) (by kernel_rfl) (by simp) ?_
    intro i hi
    simp only [List.mem_cons, List.not_mem_nil, or_false] at hi
    subst hi
    rw [show vsT xs ++ [.string key] = vsT (xs ++ [key]) from (vsT_app xs [key]).symm] at hR2
    generalize exk : vsT (xs ++ [key]) = xk at hR2 ⊢
    generalize en1 : n + 1 = n1 at hR2 ⊢
    cases hR2 with
    | nil => omega
    | @own g cap _ _ rr hok =>
      rcases r with _ | ⟨j, x0⟩
      · refine hop_ins (key := .string kind) (val := .slice (some ⟨g, 0, none⟩) n1 cap) rfl hV2 3 (.inr rfl) rfl rfl rfl rfl un_kept Try.underlying9 (isKey_string _) HF.out rfl rfl rfl rfl #[true, true, true, true, true, true, true, true, true] (by kernel_rfl) (by kernel_rfl) fun V3 hV3 => ?_
        refine hold_done (by kernel_rfl) ?_ _
        refine NoPanic.normal ?_
        go_wp2_with fail
        subst exk
        subst en1
        exact bodyPost_end (v := .tuple #[]) (results_u1 rfl) rfl ⟨rfl, g, cap, rr, hok, Mem.tail (Mem.swap hV3)⟩
      · refine hop_upd (key := .string kind) (val := .slice (some ⟨g, 0, none⟩) n1 cap) rfl hV2 3 rfl rfl rfl rfl rfl un_kept Try.underlying9 (isKey_string _) HF.out (HR.out _ rfl) rfl rfl rfl #[true, true, true, true, true, true, true, true, true] (by kernel_rfl) (by kernel_rfl) fun V3 hV3 => ?_
        refine hold_done (by kernel_rfl) ?_ _
        refine NoPanic.normal ?_
        go_wp2_with fail
        subst exk
        subst en1
        exact bodyPost_end (v := .tuple #[]) (results_u1 rfl) rfl ⟨rfl, g, cap, rr, hok, Mem.tail (Mem.swap hV3)⟩
/-- The function, of whatever map. -/
theorem add_any (w0 w : World) (bx b N : Nat) (L : List Ent) (has : Bool) (kind key : ByteArray) (h : KM w0 w bx b L) (hN : ∀ E ∈ L, E.xs.length ≤ N) (hN2 : N ≤ 1000) :
    Calls Try.prog 68 #[.bool has, .string kind, .string key, .pointer (some ⟨bx, 0, none⟩)] w fun e w' => e = .returned (.tuple #[]) ∧ ∃ L', KM w0 w' bx b L' ∧ L'.map Ent.ent = adds has kind key (L.map Ent.ent) ∧ ∀ E ∈ L', E.xs.length ≤ N + 1 := by
  cases has with
  | false =>
    have H := Lib.hid h
    have HN := Lib.hid hN
    clear h hN
    go_enter Try.func68, Try.ntmps68
    go_wp2_with fail
    exact bodyPost_end (v := .tuple #[]) (results_u1 rfl) rfl ⟨rfl, L, H.out, rfl, fun E hE => Nat.le_succ_of_le (HN.out E hE)⟩
  | true =>
    have hnod := h.nod
    rcases ents_find L kind with ⟨hf, hno⟩ | ⟨L1, E, L2, rfl, hk, hf⟩
    · refine (add1_any w0 w bx b L.length 0 (ents L) kind key none (.slice none 0 0) [] [] (L.map (Ent.blk 9)) h.mem hf rfl .nil (by omega) (fun p hp => by cases hp)).mono ?_
      rintro e w' ⟨rfl, g, cap, rr, hok, hM⟩
      obtain ⟨E', hE'⟩ : ∃ E' : Ent, E' = ⟨kind, g, cap, [key], rr⟩ := ⟨_, rfl⟩
      have hval : E'.val = .slice (some ⟨g, 0, none⟩) (0 + 1) cap := by rw [hE']; rfl
      have hblk : E'.blk 9 = (g, .cells (vsT ([] ++ [key]) ++ rr).toArray 9 (0, 0)) := by rw [hE']; rfl
      refine ⟨rfl, L ++ [E'], ⟨?_, ?_, ?_⟩, ?_, ?_⟩
      · have h1 : (ents L).push ⟨.string kind, .slice (some ⟨g, 0, none⟩) (0 + 1) cap, L.length⟩ = ents (L ++ [E']) := by
          rw [← ents_push, ← hval, hE']
        have h2 : upOf (ents L) L.length none (.string kind) (.slice (some ⟨g, 0, none⟩) (0 + 1) cap) = (ents (L ++ [E']), (L ++ [E']).length) := by
          rw [upOf, h1]
          simp
        rw [h2, ← hblk] at hM
        refine hM.perm ?_
        rw [List.map_append, List.map_cons, List.map_nil]
        exact List.perm_append_singleton (E'.blk 9) ((bx, .cells #[.map (some b)] 86 (0, 0)) :: (b, .map (ents (L ++ [E'])) (L ++ [E']).length) :: L.map (Ent.blk 9))
      · intro E hE
        rcases List.mem_append.1 hE with hE | hE
        · exact h.ok E hE
        · rw [List.mem_singleton] at hE
          rw [hE, hE']
          exact hok
      · rw [List.map_append, List.nodup_append]
        refine ⟨hnod, by simp, ?_⟩
        intro a ha c hc
        obtain ⟨E, hE, rfl⟩ := List.mem_map.1 ha
        simp only [List.map_cons, List.map_nil, List.mem_singleton] at hc
        rw [hc, hE']
        exact hno E hE
      · rw [List.map_append, adds, if_pos rfl, upd_new, List.map_cons, List.map_nil, hE']
        · rfl
        · intro p hp
          obtain ⟨E, hE, rfl⟩ := List.mem_map.1 hp
          exact hno E hE
      · intro E hE
        rcases List.mem_append.1 hE with hE | hE
        · exact Nat.le_succ_of_le (hN E hE)
        · rw [List.mem_singleton] at hE
          rw [hE, hE']
          show 1 ≤ N + 1
          omega
    · have hEm : E ∈ L1 ++ E :: L2 := by simp
      have hperm : (Ent.blk 9 E :: ((bx, .cells #[.map (some b)] 86 (0, 0)) :: (b, .map (ents (L1 ++ E :: L2)) (L1 ++ E :: L2).length) :: (L1 ++ L2).map (Ent.blk 9))).Perm ((bx, .cells #[.map (some b)] 86 (0, 0)) :: (b, .map (ents (L1 ++ E :: L2)) (L1 ++ E :: L2).length) :: (L1 ++ E :: L2).map (Ent.blk 9)) := by
        rw [List.map_append, List.map_append, List.map_cons]
        exact (List.perm_middle (l₁ := (bx, .cells #[.map (some b)] 86 (0, 0)) :: (b, .map (ents (L1 ++ E :: L2)) (L1 ++ E :: L2).length) :: L1.map (Ent.blk 9))).symm
      have hat : ((ents (L1 ++ E :: L2))[L1.length]?).map (·.key) = some (.string kind) := by
        rw [← Array.getElem?_toList, ents_at, List.getElem?_append_right (Nat.le_refl _), Nat.sub_self, List.getElem?_cons_zero, ← hk]
        rfl
      refine (add1_any w0 w bx b _ E.xs.length (ents (L1 ++ E :: L2)) kind key (some (L1.length, E.val)) E.val E.xs [Ent.blk 9 E] ((L1 ++ L2).map (Ent.blk 9)) (h.mem.perm hperm) hf rfl (.own (h.ok E hEm)) (Nat.le_trans (hN E hEm) hN2) (fun p hp => by cases hp; exact hat)).mono ?_
      rintro e w' ⟨rfl, g, cap, rr, hok, hM⟩
      obtain ⟨E', hE'⟩ : ∃ E' : Ent, E' = ⟨kind, g, cap, E.xs ++ [key], rr⟩ := ⟨_, rfl⟩
      have hlen : (E.xs ++ [key]).length = E.xs.length + 1 := by simp
      have hval : E'.val = .slice (some ⟨g, 0, none⟩) (E.xs.length + 1) cap := by rw [hE', ← hlen]; rfl
      have hblk : E'.blk 9 = (g, .cells (vsT (E.xs ++ [key]) ++ rr).toArray 9 (0, 0)) := by rw [hE']; rfl
      have hkey : E'.key = kind := by rw [hE']
      refine ⟨rfl, L1 ++ E' :: L2, ⟨?_, ?_, ?_⟩, ?_, ?_⟩
      · have h2 : upOf (ents (L1 ++ E :: L2)) (L1 ++ E :: L2).length (some (L1.length, E.val)) (.string kind) (.slice (some ⟨g, 0, none⟩) (E.xs.length + 1) cap) = (ents (L1 ++ E' :: L2), (L1 ++ E' :: L2).length) := by
          rw [upOf, ← hval, ← hkey, ents_set]
          simp
        rw [h2, ← hblk] at hM
        refine hM.perm ?_
        rw [List.map_append, List.map_append, List.map_cons]
        exact List.perm_middle (l₁ := (bx, .cells #[.map (some b)] 86 (0, 0)) :: (b, .map (ents (L1 ++ E' :: L2)) (L1 ++ E' :: L2).length) :: L1.map (Ent.blk 9))
      · intro F hF
        rcases List.mem_append.1 hF with hF | hF
        · exact h.ok F (List.mem_append_left _ hF)
        · rcases List.mem_cons.1 hF with rfl | hF
          · have hok2 : RowOk (vsT (E.xs ++ [key])) rr 1 (E.xs ++ [key]).length cap := by rw [hlen]; exact hok
            rw [hE']
            exact hok2
          · exact h.ok F (List.mem_append_right _ (List.mem_cons_of_mem _ hF))
      · rw [List.map_append, List.map_cons, hkey, ← hk, ← List.map_cons, ← List.map_append]
        exact hnod
      · have hno1 : ∀ p ∈ L1.map Ent.ent, p.1 ≠ kind := by
          intro p hp
          obtain ⟨F, hF, rfl⟩ := List.mem_map.1 hp
          rw [List.map_append, List.nodup_append] at hnod
          have h3 := hnod.2.2 F.key (List.mem_map_of_mem hF) E.key (by simp)
          rw [← hk]
          exact h3
        rw [List.map_append, List.map_cons, List.map_append, List.map_cons, adds, if_pos rfl, show E.ent = (kind, E.xs) from by rw [← hk]; rfl, upd_old _ _ _ _ _ hno1, hE']
        rfl
      · intro F hF
        rcases List.mem_append.1 hF with hF | hF
        · exact Nat.le_succ_of_le (hN F (List.mem_append_left _ hF))
        · rcases List.mem_cons.1 hF with rfl | hF
          · rw [hE']
            show (E.xs ++ [key]).length ≤ N + 1
            have := hN E hEm
            rw [hlen]
            omega
          · exact Nat.le_succ_of_le (hN F (List.mem_append_right _ (List.mem_cons_of_mem _ hF)))
end Go.Proofs.Ytbheiglbejokmaa
