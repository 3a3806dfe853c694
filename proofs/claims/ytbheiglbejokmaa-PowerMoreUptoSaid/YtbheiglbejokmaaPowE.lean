/- power.defaults, Of's function (layer 57). -/
import Derived.Test.YtbheiglbejokmaaFldL
import Derived.Test.YtbheiglbejokmaaPowD
namespace Go.Proofs.Ytbheiglbejokmaa
set_option maxRecDepth 20000
set_option linter.unusedSimpArgs false
set_option linter.unusedVariables false
open Go.RowKit Go.Sort Go.Lib Go.MapKept
attribute [local go_sem] Oper.semAt_some
section
variable {P : Program} {w : World} {o : Oper} {A : Act} {ops : Array Oper} {md : Region.Mode} {Q : Exit → Act → World → Prop} {S : World → Prop} {st n fuel : Nat} {l : Array Bool}
/-- What only reads, as the next one. -/
theorem hop_val {d : Tmp} {v : Value} (hn : ops[n]? = some o) (hdd : o.dst = some d) (hgd : o.guard = none) (h : (execOp A.eval o).run P w = .ok (.value v) w) (L : Array Bool) (hL : l.setIfInBounds n true = L) (hS : L.getD st true = false → S w) (hk : Hold P md ops Q S st fuel L (A.put (some d) v) w) :
    Go.wpOp P ops Q n (fun a' w' => ((l.setIfInBounds n true).getD st true = false → S w') ∧ Hold P md ops Q S st fuel (l.setIfInBounds n true) a' w') A w := by
  unfold Go.wpOp
  simp only [hn]
  rw [if_pos (by simp [Region.wanted, hgd])]
  refine .inl ?_
  unfold Oper.wp
  rw [h, hL]
  show (_ → S _) ∧ Hold P md ops Q S st fuel L (A.put o.dst _) _
  rw [hdd]
  exact ⟨hS, hk⟩
end
def pnm0 : ByteArray := ⟨#[98, 97, 110]⟩
def pnm1 : ByteArray := ⟨#[107, 105, 99, 107]⟩
def pnm2 : ByteArray := ⟨#[114, 101, 100, 97, 99, 116]⟩
def pnm3 : ByteArray := ⟨#[105, 110, 118, 105, 116, 101]⟩
def pnm4 : ByteArray := ⟨#[115, 116, 97, 116, 101, 95, 100, 101, 102, 97, 117, 108, 116]⟩
def pnm5 : ByteArray := ⟨#[101, 118, 101, 110, 116, 115, 95, 100, 101, 102, 97, 117, 108, 116]⟩
def pnm6 : ByteArray := ⟨#[117, 115, 101, 114, 115, 95, 100, 101, 102, 97, 117, 108, 116]⟩
def pnms : List ByteArray := [pnm0, pnm1, pnm2, pnm3, pnm4, pnm5, pnm6]
def pdefs : List Int := [50, 50, 50, 0, 50, 0, 0]
def defM : Array MapEntry := #[⟨.string pnm0, .int .i64 50, 0⟩, ⟨.string pnm1, .int .i64 50, 1⟩, ⟨.string pnm2, .int .i64 50, 2⟩, ⟨.string pnm3, .int .i64 0, 3⟩, ⟨.string pnm4, .int .i64 50, 4⟩, ⟨.string pnm5, .int .i64 0, 5⟩, ⟨.string pnm6, .int .i64 0, 6⟩]
theorem def_find0 : Instr.findNow .string (.string pnm0) defM.toList 0 = some (some (0, .int .i64 50)) := by kernel_rfl
theorem def_find1 : Instr.findNow .string (.string pnm1) defM.toList 0 = some (some (1, .int .i64 50)) := by kernel_rfl
theorem def_find2 : Instr.findNow .string (.string pnm2) defM.toList 0 = some (some (2, .int .i64 50)) := by kernel_rfl
theorem def_find3 : Instr.findNow .string (.string pnm3) defM.toList 0 = some (some (3, .int .i64 0)) := by kernel_rfl
theorem def_find4 : Instr.findNow .string (.string pnm4) defM.toList 0 = some (some (4, .int .i64 50)) := by kernel_rfl
theorem def_find5 : Instr.findNow .string (.string pnm5) defM.toList 0 = some (some (5, .int .i64 0)) := by kernel_rfl
theorem def_find6 : Instr.findNow .string (.string pnm6) defM.toList 0 = some (some (6, .int .i64 0)) := by kernel_rfl
theorem def_new0 : Instr.findNow .string (.string pnm0) (#[] : Array MapEntry).toList 0 = some none := by kernel_rfl
theorem def_new1 : Instr.findNow .string (.string pnm1) (#[⟨.string pnm0, .int .i64 50, 0⟩] : Array MapEntry).toList 0 = some none := by kernel_rfl
theorem def_new2 : Instr.findNow .string (.string pnm2) (#[⟨.string pnm0, .int .i64 50, 0⟩, ⟨.string pnm1, .int .i64 50, 1⟩] : Array MapEntry).toList 0 = some none := by kernel_rfl
theorem def_new3 : Instr.findNow .string (.string pnm3) (#[⟨.string pnm0, .int .i64 50, 0⟩, ⟨.string pnm1, .int .i64 50, 1⟩, ⟨.string pnm2, .int .i64 50, 2⟩] : Array MapEntry).toList 0 = some none := by kernel_rfl
theorem def_new4 : Instr.findNow .string (.string pnm4) (#[⟨.string pnm0, .int .i64 50, 0⟩, ⟨.string pnm1, .int .i64 50, 1⟩, ⟨.string pnm2, .int .i64 50, 2⟩, ⟨.string pnm3, .int .i64 0, 3⟩] : Array MapEntry).toList 0 = some none := by kernel_rfl
theorem def_new5 : Instr.findNow .string (.string pnm5) (#[⟨.string pnm0, .int .i64 50, 0⟩, ⟨.string pnm1, .int .i64 50, 1⟩, ⟨.string pnm2, .int .i64 50, 2⟩, ⟨.string pnm3, .int .i64 0, 3⟩, ⟨.string pnm4, .int .i64 50, 4⟩] : Array MapEntry).toList 0 = some none := by kernel_rfl
theorem def_new6 : Instr.findNow .string (.string pnm6) (#[⟨.string pnm0, .int .i64 50, 0⟩, ⟨.string pnm1, .int .i64 50, 1⟩, ⟨.string pnm2, .int .i64 50, 2⟩, ⟨.string pnm3, .int .i64 0, 3⟩, ⟨.string pnm4, .int .i64 50, 4⟩, ⟨.string pnm5, .int .i64 0, 5⟩] : Array MapEntry).toList 0 = some none := by kernel_rfl
/-- A level by a name, or else another one. -/
def Nd.lvl (N : Nd) (name : ByteArray) (d : Int) : Int := if (N.get name).kind = 3 then (N.get name).num else d
theorem un_def : Try.prog.underlying 92 = some (.map 9 2) := Try.underlying92
theorem zero_i64 (w : World) : (zeroValue 2).run Try.prog w = .ok (.int .i64 0) w := by kernel_rfl
theorem cellAsk : CellTy Try.prog 90 := ⟨⟨_, Try.underlying90, rfl⟩, by kernel_rfl⟩
theorem cellMap : CellTy Try.prog 92 := ⟨⟨_, Try.underlying92, rfl⟩, by kernel_rfl⟩
set_option maxRecDepth 100000 in
theorem defaults_any (w : World) : Calls Try.prog 55 #[] w fun e w' => ∃ b, e = .returned (.map (some b)) ∧ w'.heap[b]? = some (.map defM 7) ∧ w.heap.size ≤ b ∧ Below w.heap.size w w' := by
  go_enter Try.func55, Try.ntmps55
  go_upto_region 1 with fail
  have hM0 := Mem.start w
  refine wp_region_lit ?_
  refine wl_new hM0 (f := fun b => .map (some b)) (ob := .map #[] 0) (fun W => run_mkmap_of rfl W) rfl fun b W1 hM1 => ?_
  simp only [nm0, nm1, nm2, nm3]
  refine wl_ins hM1 0 (key := .string pnm0) (val := .int .i64 50) (es' := #[⟨.string pnm0, .int .i64 50, 0⟩]) (ck' := 1) (.inl rfl) rfl rfl rfl rfl un_def Try.underlying9 (isKey_string _) def_new0 rfl rfl rfl rfl fun W2 hM2 => ?_
  simp only [nm2, nm3] at hM2
  refine wl_ins hM2 0 (key := .string pnm1) (val := .int .i64 50) (es' := #[⟨.string pnm0, .int .i64 50, 0⟩, ⟨.string pnm1, .int .i64 50, 1⟩]) (ck' := 2) (.inl rfl) rfl rfl rfl rfl un_def Try.underlying9 (isKey_string _) def_new1 rfl rfl rfl rfl fun W3 hM3 => ?_
  simp only [nm2, nm3] at hM3
  refine wl_ins hM3 0 (key := .string pnm2) (val := .int .i64 50) (es' := #[⟨.string pnm0, .int .i64 50, 0⟩, ⟨.string pnm1, .int .i64 50, 1⟩, ⟨.string pnm2, .int .i64 50, 2⟩]) (ck' := 3) (.inl rfl) rfl rfl rfl rfl un_def Try.underlying9 (isKey_string _) def_new2 rfl rfl rfl rfl fun W4 hM4 => ?_
  simp only [nm2, nm3] at hM4
  refine wl_ins hM4 0 (key := .string pnm3) (val := .int .i64 0) (es' := #[⟨.string pnm0, .int .i64 50, 0⟩, ⟨.string pnm1, .int .i64 50, 1⟩, ⟨.string pnm2, .int .i64 50, 2⟩, ⟨.string pnm3, .int .i64 0, 3⟩]) (ck' := 4) (.inl rfl) rfl rfl rfl rfl un_def Try.underlying9 (isKey_string _) def_new3 rfl rfl rfl rfl fun W5 hM5 => ?_
  simp only [nm2, nm3] at hM5
  refine wl_ins hM5 0 (key := .string pnm4) (val := .int .i64 50) (es' := #[⟨.string pnm0, .int .i64 50, 0⟩, ⟨.string pnm1, .int .i64 50, 1⟩, ⟨.string pnm2, .int .i64 50, 2⟩, ⟨.string pnm3, .int .i64 0, 3⟩, ⟨.string pnm4, .int .i64 50, 4⟩]) (ck' := 5) (.inl rfl) rfl rfl rfl rfl un_def Try.underlying9 (isKey_string _) def_new4 rfl rfl rfl rfl fun W6 hM6 => ?_
  simp only [nm2, nm3] at hM6
  refine wl_ins hM6 0 (key := .string pnm5) (val := .int .i64 0) (es' := #[⟨.string pnm0, .int .i64 50, 0⟩, ⟨.string pnm1, .int .i64 50, 1⟩, ⟨.string pnm2, .int .i64 50, 2⟩, ⟨.string pnm3, .int .i64 0, 3⟩, ⟨.string pnm4, .int .i64 50, 4⟩, ⟨.string pnm5, .int .i64 0, 5⟩]) (ck' := 6) (.inl rfl) rfl rfl rfl rfl un_def Try.underlying9 (isKey_string _) def_new5 rfl rfl rfl rfl fun W7 hM7 => ?_
  simp only [nm2, nm3] at hM7
  refine wl_ins hM7 0 (key := .string pnm6) (val := .int .i64 0) (es' := #[⟨.string pnm0, .int .i64 50, 0⟩, ⟨.string pnm1, .int .i64 50, 1⟩, ⟨.string pnm2, .int .i64 50, 2⟩, ⟨.string pnm3, .int .i64 0, 3⟩, ⟨.string pnm4, .int .i64 50, 4⟩, ⟨.string pnm5, .int .i64 0, 5⟩, ⟨.string pnm6, .int .i64 0, 6⟩]) (ck' := 7) (.inl rfl) rfl rfl rfl rfl un_def Try.underlying9 (isKey_string _) def_new6 rfl rfl rfl rfl fun W8 hM8 => ?_
  simp only [nm2, nm3] at hM8
  refine wl_pure (v := .map (some b)) (fun W => rfl) rfl ?_
  simp only [nm0, nm1, nm2, nm3]
  refine wl_pure (v := .map (some b)) (fun W => rfl) rfl ?_
  simp only [nm0, nm1, nm2, nm3]
  refine wpList_nil ?_
  have hl := hM8.low _ (List.mem_cons_self ..)
  have hg := hM8.get 0 rfl
  have hb := hM8.below
  clear hM0 hM1 hM2 hM3 hM4 hM5 hM6 hM7 hM8
  go_wp2_with fail
  exact bodyPost_ret (results_slot rfl rfl) rfl ⟨b, rfl, hg, hl, hb⟩
set_option maxRecDepth 100000 in
set_option maxHeartbeats 2000000 in
theorem of1_any (w : World) (cs : List Value) (N : Nd) (h : IsNd w cs N) (g t3 t4 mb : Nat) (hg : w.heap[g]? = some (.cells cs.toArray 25 (0, 0)))
    (h3 : w.heap[t3]? = some (.cells #[.func (.func 69) #[] #[.pointer (some ⟨g, 0, none⟩)]] 90 (0, 0))) (h4 : w.heap[t4]? = some (.cells #[.map (some mb)] 92 (0, 0))) (hm : w.heap[mb]? = some (.map defM 7))
    (name : ByteArray) (d : Int) (i : Nat) (hf : Instr.findNow .string (.string name) defM.toList 0 = some (some (i, .int .i64 d))) :
    Calls Try.prog 56 #[.string name, .pointer (some ⟨t3, 0, none⟩), .pointer (some ⟨t4, 0, none⟩)] w fun e w' => e = .returned (.int .i64 (N.lvl name d)) ∧ Below w.heap.size w w' := by
  have HMIX := Lib.hid (show Try.prog.follows .mixedOrders = true by kernel_rfl)
  have lg := (Array.getElem?_eq_some_iff.1 hg).1
  have l3 := (Array.getElem?_eq_some_iff.1 h3).1
  have l4 := (Array.getElem?_eq_some_iff.1 h4).1
  have lm := (Array.getElem?_eq_some_iff.1 hm).1
  have KA := Lib.hid (fun W (hW : Below w.heap.size w W) => ask1_any W cs N (h.keep hW) g ((hW.block g lg).trans hg) name)
  obtain ⟨ik, eik⟩ : ∃ z, z = decide ((N.get name).kind = 3) := ⟨_, rfl⟩
  obtain ⟨lv, elv⟩ : ∃ z, z = (if (N.get name).kind = 3 then (N.get name).num else 0) := ⟨_, rfl⟩
  obtain ⟨rs, ers⟩ : ∃ z, z = N.lvl name d := ⟨_, rfl⟩
  rw [← eik, ← elv] at KA
  rw [← ers]
  have hrs : rs = if ik = false ∧ lv = 0 then d else lv := by
    rw [ers, eik, elv]
    unfold Nd.lvl
    by_cases c : (N.get name).kind = 3 <;> simp [c]
  have HRS := Lib.hid hrs
  have H3 := Lib.hid h3
  have H4 := Lib.hid h4
  have HM := Lib.hid hm
  clear hrs ers elv eik h hg h3 h4 hm
  go_enter Try.func56, Try.ntmps56
  have hM0 := Mem.start w
  go_upto_region 1 with fail
  have hMd := hM0.drew
  refine wp_region_noPanic (hold_begin (S := fun W => Below w.heap.size w W) (st := 6) HMIX.out ?_)
  change Hold _ _ _ _ _ _ 8 _ _ _
  generalize eV0 : w.drew = V0 at hMd ⊢
  have hV0 := hMd
  clear hMd
  refine hl_take 0 5 [2, 6] #[true, false, false, false, false, false, false, false] (by kernel_rfl) (v := .func (.func 69) #[] #[.pointer (some ⟨g, 0, none⟩)]) rfl rfl (by kernel_rfl) (by kernel_rfl) (by kernel_rfl) (by kernel_rfl) (by kernel_rfl) (by kernel_rfl) rfl (fun W hW => run_load_cell rfl rfl ((hW.block t3 l3).trans H3.out) rfl cellAsk) (hV0.below) ?_
  simp only [nm0, nm1, nm2, nm3]
  refine hl_pure 1 6 #[true, true, false, false, false, false, false, false] (by kernel_rfl) (v := .string name) rfl rfl (by kernel_rfl) rfl (by kernel_rfl) (by kernel_rfl) rfl (fun W => rfl) (hV0.below) ?_
  simp only [nm0, nm1, nm2, nm3]
  refine hl_take 3 8 [5, 6] #[true, true, false, true, false, false, false, false] (by kernel_rfl) (v := .map (some mb)) rfl rfl (by kernel_rfl) (by kernel_rfl) (by kernel_rfl) (by kernel_rfl) (by kernel_rfl) (by kernel_rfl) rfl (fun W hW => run_load_cell rfl rfl ((hW.block t4 l4).trans H4.out) rfl cellMap) (hV0.below) ?_
  simp only [nm0, nm1, nm2, nm3]
  refine hl_pure 4 9 #[true, true, false, true, true, false, false, false] (by kernel_rfl) (v := .string name) rfl rfl (by kernel_rfl) rfl (by kernel_rfl) (by kernel_rfl) rfl (fun W => rfl) (hV0.below) ?_
  simp only [nm0, nm1, nm2, nm3]
  refine hl_take 5 10 [6] #[true, true, false, true, true, true, false, false] (by kernel_rfl) (v := .int .i64 d) rfl rfl (by kernel_rfl) (by kernel_rfl) (by kernel_rfl) (by kernel_rfl) (by kernel_rfl) (by kernel_rfl) rfl (fun W hW => run_look_of (key := .string name) rfl rfl rfl un_def Try.underlying9 ((hW.block mb lm).trans HM.out) (isKey_string _) (zero_i64 W) hf rfl) (hV0.below) ?_
  simp only [nm0, nm1, nm2, nm3]
  refine hold_next (rs := [2]) (by kernel_rfl) (by simp) ?_
  intro i hi
  simp only [List.mem_cons, List.not_mem_nil, or_false] at hi
  subst hi
  refine hop_call (d := 7) (args := #[.string name, .pointer (some ⟨g, 0, none⟩)]) rfl rfl rfl (fun W => run_call_dyn W (enters_of Try.func69 (by kernel_rfl) rfl) rfl rfl (by simp [Act.eval]; rfl) rfl) (KA.out V0 hV0.below) #[true, true, true, true, true, true, false, false] (by kernel_rfl) ?_
  rintro e V1 ⟨rfl, hb1⟩
  have hV1 := hV0.calls hb1
  refine ⟨_, rfl, fun _ => hV1.below, ?_⟩
  simp only [nm0, nm1, nm2, nm3]
  refine hold_next (rs := [6]) (by kernel_rfl) (by simp) ?_
  intro i hi
  simp only [List.mem_cons, List.not_mem_nil, or_false] at hi
  subst hi
  refine hop_call (d := 11) (args := #[.agg #[.bool ik, .int .i64 lv], .int .i64 d]) rfl rfl rfl (fun W => run_call_fn W (enters_of Try.func57 (by kernel_rfl) rfl) rfl (by simp [Act.eval])) (or_any V1 ik lv d) #[true, true, true, true, true, true, true, false] (by kernel_rfl) ?_
  rintro e V2 ⟨rfl, hb2⟩
  have hV2 := hV1.calls hb2
  rw [← HRS.out]
  refine ⟨_, rfl, fun _ => hV2.below, ?_⟩
  simp only [nm0, nm1, nm2, nm3]
  refine hl_pureS 7 4 #[true, true, true, true, true, true, true, true] (by kernel_rfl) (v := .int .i64 rs) rfl rfl (by kernel_rfl) rfl (by kernel_rfl) (by kernel_rfl) rfl (fun W => rfl) (by kernel_rfl) ?_
  simp only [nm0, nm1, nm2, nm3]
  refine hold_done (by kernel_rfl) ?_ _
  refine NoPanic.normal ?_
  have HB := Lib.hid hV2.below
  clear hM0 hV0 hV1 hV2 hb1 hb2 eV0
  go_wp2_with fail
  exact bodyPost_ret (results_slot rfl rfl) rfl ⟨rfl, HB.out⟩
end Go.Proofs.Ytbheiglbejokmaa
