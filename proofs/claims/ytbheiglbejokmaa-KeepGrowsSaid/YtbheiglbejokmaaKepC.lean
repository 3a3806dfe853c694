/- keep.kept (layer 32). Written by kp_gen_c.py. -/
import Derived.Test.YtbheiglbejokmaaKepB
namespace Go.Proofs.Ytbheiglbejokmaa
set_option maxRecDepth 20000
set_option linter.unusedSimpArgs false
set_option linter.unusedVariables false
open Go.RowKit Go.Sort Go.Lib Go.MapKept
attribute [local go_sem] Oper.semAt_some
theorem Mem.wide {w0 w1 w : World} {M : List Blk} (h : Mem w1 M w) (hb : Below w0.heap.size w0 w1) : Mem w0 M w :=
  ⟨hb.trans (h.below.mono hb.size), fun p hp => Nat.le_trans hb.size (h.low p hp), h.nod, h.at_⟩
def kk_mem : ByteArray := ⟨#[109, 46, 114, 111, 111, 109, 46, 109, 101, 109, 98, 101, 114]⟩
def kk_cre : ByteArray := ⟨#[109, 46, 114, 111, 111, 109, 46, 99, 114, 101, 97, 116, 101]⟩
def kk_rul : ByteArray := ⟨#[109, 46, 114, 111, 111, 109, 46, 106, 111, 105, 110, 95, 114, 117, 108, 101, 115]⟩
def kk_lev : ByteArray := ⟨#[109, 46, 114, 111, 111, 109, 46, 112, 111, 119, 101, 114, 95, 108, 101, 118, 101, 108, 115]⟩
def kk_his : ByteArray := ⟨#[109, 46, 114, 111, 111, 109, 46, 104, 105, 115, 116, 111, 114, 121, 95, 118, 105, 115, 105, 98, 105, 108, 105, 116, 121]⟩
def kk_ali : ByteArray := ⟨#[109, 46, 114, 111, 111, 109, 46, 97, 108, 105, 97, 115, 101, 115]⟩
def kk_red : ByteArray := ⟨#[109, 46, 114, 111, 111, 109, 46, 114, 101, 100, 97, 99, 116, 105, 111, 110]⟩
def kk_membership : ByteArray := ⟨#[109, 101, 109, 98, 101, 114, 115, 104, 105, 112]⟩
def kk_creator : ByteArray := ⟨#[99, 114, 101, 97, 116, 111, 114]⟩
def kk_join_rule : ByteArray := ⟨#[106, 111, 105, 110, 95, 114, 117, 108, 101]⟩
def kk_ban : ByteArray := ⟨#[98, 97, 110]⟩
def kk_events : ByteArray := ⟨#[101, 118, 101, 110, 116, 115]⟩
def kk_events_default : ByteArray := ⟨#[101, 118, 101, 110, 116, 115, 95, 100, 101, 102, 97, 117, 108, 116]⟩
def kk_kick : ByteArray := ⟨#[107, 105, 99, 107]⟩
def kk_redact : ByteArray := ⟨#[114, 101, 100, 97, 99, 116]⟩
def kk_state_default : ByteArray := ⟨#[115, 116, 97, 116, 101, 95, 100, 101, 102, 97, 117, 108, 116]⟩
def kk_users : ByteArray := ⟨#[117, 115, 101, 114, 115]⟩
def kk_users_default : ByteArray := ⟨#[117, 115, 101, 114, 115, 95, 100, 101, 102, 97, 117, 108, 116]⟩
def kk_history_visibility : ByteArray := ⟨#[104, 105, 115, 116, 111, 114, 121, 95, 118, 105, 115, 105, 98, 105, 108, 105, 116, 121]⟩
def kk_authd : ByteArray := ⟨#[106, 111, 105, 110, 95, 97, 117, 116, 104, 111, 114, 105, 115, 101, 100, 95, 118, 105, 97, 95, 117, 115, 101, 114, 115, 95, 115, 101, 114, 118, 101, 114]⟩
def kk_inv3 : ByteArray := ⟨#[116, 104, 105, 114, 100, 95, 112, 97, 114, 116, 121, 95, 105, 110, 118, 105, 116, 101]⟩
def kk_allow : ByteArray := ⟨#[97, 108, 108, 111, 119]⟩
def kk_invite : ByteArray := ⟨#[105, 110, 118, 105, 116, 101]⟩
def kk_aliases : ByteArray := ⟨#[97, 108, 105, 97, 115, 101, 115]⟩
def kk_redacts : ByteArray := ⟨#[114, 101, 100, 97, 99, 116, 115]⟩
def kept0 : List (ByteArray × List ByteArray) := [(kk_mem, [kk_membership]), (kk_cre, [kk_creator]), (kk_rul, [kk_join_rule]), (kk_lev, [kk_ban, kk_events, kk_events_default, kk_kick, kk_redact, kk_state_default, kk_users, kk_users_default]), (kk_his, [kk_history_visibility])]
/-- What is kept, by what is told of a version. -/
def keptL (m al au mo : Bool) : List (ByteArray × List ByteArray) := adds mo kk_red kk_redacts (adds al kk_ali kk_aliases (adds mo kk_lev kk_invite (adds m kk_rul kk_allow (adds mo kk_mem kk_inv3 (adds au kk_mem kk_authd kept0)))))
theorem ok_row (l : List ByteArray) (n : Nat) (hn : l.length = n) (hm : n ≤ 1000) : RowOk (vsT l) [] 1 n n := ⟨by rw [vsT_len, hn, Nat.mul_one], by rw [List.append_nil, vsT_len, hn, Nat.mul_one], Nat.le_refl _, by unfold maxLen; omega⟩
section
variable {P : Program} {w w0 : World} {M : List Blk} {o : Oper} {A : Act} {ops : Array Oper} {Q : Exit → Act → World → Prop} {rest : List Oper}
theorem ents_new {L : List Ent} {E : Ent} (h : ∀ F ∈ L, F.key ≠ E.key) : Instr.findNow .string (.string E.key) (ents L).toList 0 = some none := by
  rcases ents_find L E.key with ⟨h1, _⟩ | ⟨L1, F, L2, rfl, h1, _⟩
  · exact h1
  · exact absurd h1 (h F (by simp))
theorem wl_ent (hM : Mem w0 M w) (i : Nat) {t k e : TypeId} {m x y : Operand} {b ck : Nat} {L : List Ent} (E : Ent) (ho : o.op = .insert t m x y) (hm : A.eval m = .map (some b)) (hx : A.eval x = .string E.key) (hy : A.eval y = E.val) (hi : M[i]? = some (b, .map (ents L) ck)) (hck : L.length = ck) (ht : P.underlying t = some (.map k e)) (hd : P.underlying k = some .string) (hno : ∀ F ∈ L, F.key ≠ E.key)
    (hgd : o.guard = none) (hds : o.dst = none) (hr : ∀ W, Mem w0 (M.set i (b, .map (ents (L ++ [E])) (ck + 1))) W → wpList P ops Q rest A W) : wpList P ops Q (o :: rest) A w := by
  subst hck
  exact wl_ins hM i (.inl ho) hm hx hy hi ht hd (isKey_string _) (ents_new hno) (ents_push L E) rfl hgd hds hr
end
theorem bx_rules (p1 p2 p3 p4 p5 p6 p7 : Bool) (W : World) : (Instr.box 80 (.agg #[.bool p1, .bool p2, .bool p3, .bool p4, .bool p5, .bool p6, .bool p7])).run Try.prog W = .ok (.pointer (some ⟨W.heap.size, 0, none⟩)) (W.alloc (.cells #[.bool p1, .bool p2, .bool p3, .bool p4, .bool p5, .bool p6, .bool p7] 80 (0, 0))) := by go_simp
theorem al_kept (W : World) : (Instr.alloc 86 true (.tuple #[])).run Try.prog W = .ok (.pointer (some ⟨W.heap.size, 0, none⟩)) (W.alloc (.cells #[.map none] 86 (0, 0))) := by kernel_rfl
theorem cellBoolK : CellTy Try.prog 4 := ⟨⟨_, Try.underlying4, rfl⟩, by kernel_rfl⟩
theorem fl_ru3 (b : Nat) (W : World) : (Instr.fieldAt 80 (.pointer (some ⟨b, 0, none⟩)) 3).run Try.prog W = .ok (.pointer (some ⟨b, 3, none⟩)) W := by kernel_rfl
theorem fl_ru4 (b : Nat) (W : World) : (Instr.fieldAt 80 (.pointer (some ⟨b, 0, none⟩)) 4).run Try.prog W = .ok (.pointer (some ⟨b, 4, none⟩)) W := by kernel_rfl
theorem fl_ru5 (b : Nat) (W : World) : (Instr.fieldAt 80 (.pointer (some ⟨b, 0, none⟩)) 5).run Try.prog W = .ok (.pointer (some ⟨b, 5, none⟩)) W := by kernel_rfl
theorem fl_ru6 (b : Nat) (W : World) : (Instr.fieldAt 80 (.pointer (some ⟨b, 0, none⟩)) 6).run Try.prog W = .ok (.pointer (some ⟨b, 6, none⟩)) W := by kernel_rfl
theorem bs_lev (W : World) : (Instr.buildSlice 22 8 #[(0, .string kk_ban), (1, .string kk_events), (2, .string kk_events_default), (3, .string kk_kick), (4, .string kk_redact), (5, .string kk_state_default), (6, .string kk_users), (7, .string kk_users_default)]).run Try.prog W = .ok (.slice (some ⟨W.heap.size, 0, none⟩) 8 8) (W.alloc (.cells (vsT [kk_ban, kk_events, kk_events_default, kk_kick, kk_redact, kk_state_default, kk_users, kk_users_default] ++ []).toArray 9 (0, 0))) := by go_simp; rfl
set_option maxRecDepth 100000 in
set_option maxHeartbeats 4000000 in
theorem kept_any (w : World) (a1 a2 a3 al m au mo : Bool) :
    Calls Try.prog 52 #[.agg #[.bool a1, .bool a2, .bool a3, .bool al, .bool m, .bool au, .bool mo]] w fun e w' => ∃ bx b L, e = .returned (.map (some b)) ∧ Below w.heap.size w w' ∧ w.heap.size ≤ b ∧ KM w w' bx b L ∧ L.map Ent.ent = keptL m al au mo ∧ ∀ E ∈ L, E.xs.length ≤ 20 := by
  go_enter Try.func52, Try.ntmps52
  go_upto_region 0 with fail
  have hM0 := Mem.start w
  refine wp_region_lit ?_
  refine wl_new hM0 (f := fun b => .pointer (some ⟨b, 0, none⟩)) (ob := .cells #[.bool a1, .bool a2, .bool a3, .bool al, .bool m, .bool au, .bool mo] 80 (0, 0)) (fun W => run_box_of rfl rfl (bx_rules a1 a2 a3 al m au mo W)) rfl fun rb W1 hR1 => ?_
  simp only [nm0, nm1, nm2, nm3]
  refine wl_pure (v := .map none) (fun W => rfl) rfl ?_
  simp only [nm0, nm1, nm2, nm3]
  refine wpList_nil ?_
  have hN0 := Mem.start W1
  go_upto_region 1 with fail
  refine wp_region_lit ?_
  refine wl_new hN0 (f := fun b => .map (some b)) (ob := .map (ents []) 0) (fun W => run_mkmap_of rfl W) rfl fun b V0 hV0 => ?_
  simp only [nm0, nm1, nm2, nm3]
  refine wl_new hV0 (f := fun b => .slice (some ⟨b, 0, none⟩) 1 1) (ob := .cells (vsT [kk_membership] ++ []).toArray 9 (0, 0)) (fun W => run_slice_of rfl (by simp [Act.eval]; try rfl) (bs_str kk_membership W)) rfl fun g0 V1 hV1 => ?_
  simp only [nm0, nm1, nm2, nm3]
  refine wl_ent hV1 1 (L := []) ⟨kk_mem, g0, 1, [kk_membership], []⟩ rfl rfl rfl rfl rfl rfl un_kept Try.underlying9 (by simp only [List.forall_mem_cons, List.not_mem_nil, false_implies, implies_true, and_true] <;> decide +kernel) rfl rfl fun V2 hV2 => ?_
  simp only [nm2, nm3] at hV2
  refine wl_new hV2 (f := fun b => .slice (some ⟨b, 0, none⟩) 1 1) (ob := .cells (vsT [kk_creator] ++ []).toArray 9 (0, 0)) (fun W => run_slice_of rfl (by simp [Act.eval]; try rfl) (bs_str kk_creator W)) rfl fun g1 V3 hV3 => ?_
  simp only [nm0, nm1, nm2, nm3]
  refine wl_ent hV3 2 (L := [⟨kk_mem, g0, 1, [kk_membership], []⟩]) ⟨kk_cre, g1, 1, [kk_creator], []⟩ rfl rfl rfl rfl rfl rfl un_kept Try.underlying9 (by simp only [List.forall_mem_cons, List.not_mem_nil, false_implies, implies_true, and_true] <;> decide +kernel) rfl rfl fun V4 hV4 => ?_
  simp only [nm2, nm3] at hV4
  refine wl_new hV4 (f := fun b => .slice (some ⟨b, 0, none⟩) 1 1) (ob := .cells (vsT [kk_join_rule] ++ []).toArray 9 (0, 0)) (fun W => run_slice_of rfl (by simp [Act.eval]; try rfl) (bs_str kk_join_rule W)) rfl fun g2 V5 hV5 => ?_
  simp only [nm0, nm1, nm2, nm3]
  refine wl_ent hV5 3 (L := [⟨kk_mem, g0, 1, [kk_membership], []⟩, ⟨kk_cre, g1, 1, [kk_creator], []⟩]) ⟨kk_rul, g2, 1, [kk_join_rule], []⟩ rfl rfl rfl rfl rfl rfl un_kept Try.underlying9 (by simp only [List.forall_mem_cons, List.not_mem_nil, false_implies, implies_true, and_true] <;> decide +kernel) rfl rfl fun V6 hV6 => ?_
  simp only [nm2, nm3] at hV6
  refine wl_new hV6 (f := fun b => .slice (some ⟨b, 0, none⟩) 8 8) (ob := .cells (vsT [kk_ban, kk_events, kk_events_default, kk_kick, kk_redact, kk_state_default, kk_users, kk_users_default] ++ []).toArray 9 (0, 0)) (fun W => run_slice_of rfl (by simp [Act.eval]; exact ⟨rfl, rfl, rfl, rfl, rfl, rfl, rfl, rfl⟩) (bs_lev W)) rfl fun g3 V7 hV7 => ?_
  simp only [nm0, nm1, nm2, nm3]
  refine wl_ent hV7 4 (L := [⟨kk_mem, g0, 1, [kk_membership], []⟩, ⟨kk_cre, g1, 1, [kk_creator], []⟩, ⟨kk_rul, g2, 1, [kk_join_rule], []⟩]) ⟨kk_lev, g3, 8, [kk_ban, kk_events, kk_events_default, kk_kick, kk_redact, kk_state_default, kk_users, kk_users_default], []⟩ rfl rfl rfl rfl rfl rfl un_kept Try.underlying9 (by simp only [List.forall_mem_cons, List.not_mem_nil, false_implies, implies_true, and_true] <;> decide +kernel) rfl rfl fun V8 hV8 => ?_
  simp only [nm2, nm3] at hV8
  refine wl_new hV8 (f := fun b => .slice (some ⟨b, 0, none⟩) 1 1) (ob := .cells (vsT [kk_history_visibility] ++ []).toArray 9 (0, 0)) (fun W => run_slice_of rfl (by simp [Act.eval]; try rfl) (bs_str kk_history_visibility W)) rfl fun g4 V9 hV9 => ?_
  simp only [nm0, nm1, nm2, nm3]
  refine wl_ent hV9 5 (L := [⟨kk_mem, g0, 1, [kk_membership], []⟩, ⟨kk_cre, g1, 1, [kk_creator], []⟩, ⟨kk_rul, g2, 1, [kk_join_rule], []⟩, ⟨kk_lev, g3, 8, [kk_ban, kk_events, kk_events_default, kk_kick, kk_redact, kk_state_default, kk_users, kk_users_default], []⟩]) ⟨kk_his, g4, 1, [kk_history_visibility], []⟩ rfl rfl rfl rfl rfl rfl un_kept Try.underlying9 (by simp only [List.forall_mem_cons, List.not_mem_nil, false_implies, implies_true, and_true] <;> decide +kernel) rfl rfl fun V10 hV10 => ?_
  simp only [nm2, nm3] at hV10
  refine wl_pure (v := .map (some b)) (fun W => rfl) rfl ?_
  simp only [nm0, nm1, nm2, nm3]
  refine wl_new hV10 (f := fun b => .pointer (some ⟨b, 0, none⟩)) (fun W => run_alloc_of rfl (al_kept W)) rfl fun bx X0 hX0 => ?_
  simp only [nm0, nm1, nm2, nm3]
  refine wl_setat hX0 0 (cs' := #[.map (some b)]) rfl rfl rfl rfl (by show 0 < 1; decide) rfl cellKept rfl rfl rfl fun X1 hX1 => ?_
  simp only [nm2, nm3] at hX1
  refine wpList_nil ?_
  have hbW : W1.heap.size ≤ b := hX1.low (b, _) (List.mem_of_getElem? (i := 6) rfl)
  obtain ⟨L0, eL0⟩ : ∃ z : List Ent, z = [⟨kk_mem, g0, 1, [kk_membership], []⟩, ⟨kk_cre, g1, 1, [kk_creator], []⟩, ⟨kk_rul, g2, 1, [kk_join_rule], []⟩, ⟨kk_lev, g3, 8, [kk_ban, kk_events, kk_events_default, kk_kick, kk_redact, kk_state_default, kk_users, kk_users_default], []⟩, ⟨kk_his, g4, 1, [kk_history_visibility], []⟩] := ⟨_, rfl⟩
  have hK0 : KM W1 X1 bx b L0 := by
    rw [eL0]
    refine ⟨hX1.perm ?_, ?_, ?_⟩
    · exact List.Perm.cons _ (List.reverse_perm [_, _, _, _, _, _]).symm
    · simp only [List.forall_mem_cons, List.not_mem_nil, false_implies, implies_true, and_true]
      exact ⟨ok_row _ _ rfl (by decide), ok_row _ _ rfl (by decide), ok_row _ _ rfl (by decide), ok_row _ _ rfl (by decide), ok_row _ _ rfl (by decide)⟩
    · show [kk_mem, kk_cre, kk_rul, kk_lev, kk_his].Nodup
      decide +kernel
  have hL0 : L0.map Ent.ent = kept0 := by rw [eL0]; rfl
  have hn0 : ∀ E ∈ L0, E.xs.length ≤ 8 := by
    rw [eL0]
    simp only [List.forall_mem_cons, List.not_mem_nil, false_implies, implies_true, and_true]
    decide +kernel
  clear eL0
  clear hV0 hV1 hV2 hV3 hV4 hV5 hV6 hV7 hV8 hV9 hV10 hX0 hX1 hM0 hN0
  go_upto_region 2 with fail
  refine wp_region_lit ?_
  refine wl_pure (v := .func (.func 68) #[] #[.pointer (some ⟨bx, 0, none⟩)]) (fun W => run_makeFunc_of rfl (by simp [Instr.makeFunc, Act.eval])) rfl ?_
  simp only [nm0, nm1, nm2, nm3]
  refine wl_pure (v := .func (.func 68) #[] #[.pointer (some ⟨bx, 0, none⟩)]) (fun W => rfl) rfl ?_
  simp only [nm0, nm1, nm2, nm3]
  refine wpList_nil ?_
  go_upto_region 3 with fail
  have hR_0 := hR1.calls hK0.mem.below
  refine wp_region_lit ?_
  refine wl_pure (v := .func (.func 68) #[] #[.pointer (some ⟨bx, 0, none⟩)]) (fun W => rfl) rfl ?_
  simp only [nm0, nm1, nm2, nm3]
  refine wl_pure (v := .pointer (some ⟨rb, 5, none⟩)) (fun W => run_field_of rfl rfl (fl_ru5 _ W)) rfl ?_
  simp only [nm0, nm1, nm2, nm3]
  refine wl_cell hR_0 0 (v := .bool au) rfl rfl rfl rfl cellBoolK rfl ?_
  simp only [nm0, nm1, nm2, nm3]
  refine wl_callX (args := #[.bool au, .string kk_mem, .string kk_authd, .pointer (some ⟨bx, 0, none⟩)]) (fun W => run_call_dyn W (enters_of Try.func68 (by kernel_rfl) rfl) rfl rfl (by simp [Act.eval]; rfl) rfl) (add_any W1 X1 bx b 8 L0 au kk_mem kk_authd hK0 hn0 (by decide)) rfl ?_
  rintro e X2 ⟨rfl, L1, hK1, hL1, hn1⟩
  refine ⟨_, rfl, ?_⟩
  simp only [nm0, nm1, nm2, nm3]
  refine wpList_nil ?_
  rw [hL0] at hL1
  clear hK0 hL0 hn0 hR_0
  go_upto_region 4 with fail
  have hR_1 := hR1.calls hK1.mem.below
  refine wp_region_lit ?_
  refine wl_pure (v := .func (.func 68) #[] #[.pointer (some ⟨bx, 0, none⟩)]) (fun W => rfl) rfl ?_
  simp only [nm0, nm1, nm2, nm3]
  refine wl_pure (v := .pointer (some ⟨rb, 6, none⟩)) (fun W => run_field_of rfl rfl (fl_ru6 _ W)) rfl ?_
  simp only [nm0, nm1, nm2, nm3]
  refine wl_cell hR_1 0 (v := .bool mo) rfl rfl rfl rfl cellBoolK rfl ?_
  simp only [nm0, nm1, nm2, nm3]
  refine wl_callX (args := #[.bool mo, .string kk_mem, .string kk_inv3, .pointer (some ⟨bx, 0, none⟩)]) (fun W => run_call_dyn W (enters_of Try.func68 (by kernel_rfl) rfl) rfl rfl (by simp [Act.eval]; rfl) rfl) (add_any W1 X2 bx b 9 L1 mo kk_mem kk_inv3 hK1 hn1 (by decide)) rfl ?_
  rintro e X3 ⟨rfl, L2, hK2, hL2, hn2⟩
  refine ⟨_, rfl, ?_⟩
  simp only [nm0, nm1, nm2, nm3]
  refine wpList_nil ?_
  rw [hL1] at hL2
  clear hK1 hL1 hn1 hR_1
  go_upto_region 5 with fail
  have hR_2 := hR1.calls hK2.mem.below
  refine wp_region_lit ?_
  refine wl_pure (v := .func (.func 68) #[] #[.pointer (some ⟨bx, 0, none⟩)]) (fun W => rfl) rfl ?_
  simp only [nm0, nm1, nm2, nm3]
  refine wl_pure (v := .pointer (some ⟨rb, 4, none⟩)) (fun W => run_field_of rfl rfl (fl_ru4 _ W)) rfl ?_
  simp only [nm0, nm1, nm2, nm3]
  refine wl_cell hR_2 0 (v := .bool m) rfl rfl rfl rfl cellBoolK rfl ?_
  simp only [nm0, nm1, nm2, nm3]
  refine wl_callX (args := #[.bool m, .string kk_rul, .string kk_allow, .pointer (some ⟨bx, 0, none⟩)]) (fun W => run_call_dyn W (enters_of Try.func68 (by kernel_rfl) rfl) rfl rfl (by simp [Act.eval]; rfl) rfl) (add_any W1 X3 bx b 10 L2 m kk_rul kk_allow hK2 hn2 (by decide)) rfl ?_
  rintro e X4 ⟨rfl, L3, hK3, hL3, hn3⟩
  refine ⟨_, rfl, ?_⟩
  simp only [nm0, nm1, nm2, nm3]
  refine wpList_nil ?_
  rw [hL2] at hL3
  clear hK2 hL2 hn2 hR_2
  go_upto_region 6 with fail
  have hR_3 := hR1.calls hK3.mem.below
  refine wp_region_lit ?_
  refine wl_pure (v := .func (.func 68) #[] #[.pointer (some ⟨bx, 0, none⟩)]) (fun W => rfl) rfl ?_
  simp only [nm0, nm1, nm2, nm3]
  refine wl_pure (v := .pointer (some ⟨rb, 6, none⟩)) (fun W => run_field_of rfl rfl (fl_ru6 _ W)) rfl ?_
  simp only [nm0, nm1, nm2, nm3]
  refine wl_cell hR_3 0 (v := .bool mo) rfl rfl rfl rfl cellBoolK rfl ?_
  simp only [nm0, nm1, nm2, nm3]
  refine wl_callX (args := #[.bool mo, .string kk_lev, .string kk_invite, .pointer (some ⟨bx, 0, none⟩)]) (fun W => run_call_dyn W (enters_of Try.func68 (by kernel_rfl) rfl) rfl rfl (by simp [Act.eval]; rfl) rfl) (add_any W1 X4 bx b 11 L3 mo kk_lev kk_invite hK3 hn3 (by decide)) rfl ?_
  rintro e X5 ⟨rfl, L4, hK4, hL4, hn4⟩
  refine ⟨_, rfl, ?_⟩
  simp only [nm0, nm1, nm2, nm3]
  refine wpList_nil ?_
  rw [hL3] at hL4
  clear hK3 hL3 hn3 hR_3
  go_upto_region 7 with fail
  have hR_4 := hR1.calls hK4.mem.below
  refine wp_region_lit ?_
  refine wl_pure (v := .func (.func 68) #[] #[.pointer (some ⟨bx, 0, none⟩)]) (fun W => rfl) rfl ?_
  simp only [nm0, nm1, nm2, nm3]
  refine wl_pure (v := .pointer (some ⟨rb, 3, none⟩)) (fun W => run_field_of rfl rfl (fl_ru3 _ W)) rfl ?_
  simp only [nm0, nm1, nm2, nm3]
  refine wl_cell hR_4 0 (v := .bool al) rfl rfl rfl rfl cellBoolK rfl ?_
  simp only [nm0, nm1, nm2, nm3]
  refine wl_callX (args := #[.bool al, .string kk_ali, .string kk_aliases, .pointer (some ⟨bx, 0, none⟩)]) (fun W => run_call_dyn W (enters_of Try.func68 (by kernel_rfl) rfl) rfl rfl (by simp [Act.eval]; rfl) rfl) (add_any W1 X5 bx b 12 L4 al kk_ali kk_aliases hK4 hn4 (by decide)) rfl ?_
  rintro e X6 ⟨rfl, L5, hK5, hL5, hn5⟩
  refine ⟨_, rfl, ?_⟩
  simp only [nm0, nm1, nm2, nm3]
  refine wpList_nil ?_
  rw [hL4] at hL5
  clear hK4 hL4 hn4 hR_4
  go_upto_region 8 with fail
  have hR_5 := hR1.calls hK5.mem.below
  refine wp_region_lit ?_
  refine wl_pure (v := .func (.func 68) #[] #[.pointer (some ⟨bx, 0, none⟩)]) (fun W => rfl) rfl ?_
  simp only [nm0, nm1, nm2, nm3]
  refine wl_pure (v := .pointer (some ⟨rb, 6, none⟩)) (fun W => run_field_of rfl rfl (fl_ru6 _ W)) rfl ?_
  simp only [nm0, nm1, nm2, nm3]
  refine wl_cell hR_5 0 (v := .bool mo) rfl rfl rfl rfl cellBoolK rfl ?_
  simp only [nm0, nm1, nm2, nm3]
  refine wl_callX (args := #[.bool mo, .string kk_red, .string kk_redacts, .pointer (some ⟨bx, 0, none⟩)]) (fun W => run_call_dyn W (enters_of Try.func68 (by kernel_rfl) rfl) rfl rfl (by simp [Act.eval]; rfl) rfl) (add_any W1 X6 bx b 13 L5 mo kk_red kk_redacts hK5 hn5 (by decide)) rfl ?_
  rintro e X7 ⟨rfl, L6, hK6, hL6, hn6⟩
  refine ⟨_, rfl, ?_⟩
  simp only [nm0, nm1, nm2, nm3]
  refine wpList_nil ?_
  rw [hL5] at hL6
  clear hK5 hL5 hn5 hR_5
  go_upto_region 9 with fail
  refine wp_region_lit ?_
  refine wl_cell hK6.mem 0 (v := .map (some b)) rfl rfl rfl rfl cellKept rfl ?_
  simp only [nm0, nm1, nm2, nm3]
  refine wl_pure (v := .map (some b)) (fun W => rfl) rfl ?_
  simp only [nm0, nm1, nm2, nm3]
  refine wpList_nil ?_
  have hB := hR1.below
  have hBK := hR1.calls hK6.mem.below
  have HK := Lib.hid hK6
  have HL := Lib.hid hL6
  have HN := Lib.hid hn6
  clear hK6 hL6 hn6 hR1
  go_wp2_with fail
  exact bodyPost_ret (results_slot rfl rfl) rfl ⟨bx, b, L6, rfl, hBK.below, Nat.le_trans hB.size hbW, ⟨HK.out.mem.wide hB, HK.out.ok, HK.out.nod⟩, HL.out, fun E hE => Nat.le_trans (HN.out E hE) (by decide)⟩
end Go.Proofs.Ytbheiglbejokmaa
