/- field.wrong, Check (layer 29). -/
import Derived.Test.YtbheiglbejokmaaRulC
namespace Go.Proofs.Ytbheiglbejokmaa
set_option maxRecDepth 20000
set_option linter.unusedSimpArgs false
set_option linter.unusedVariables false
open Go.RowKit Go.Sort Go.Lib Go.MapKept
attribute [local go_sem] Oper.semAt_some
theorem fr_0 (b : Nat) (W : World) : (Instr.fieldAt 35 (.pointer (some ⟨b, 0, none⟩)) 0).run Try.prog W = .ok (.pointer (some ⟨b, 0, none⟩)) W := by kernel_rfl
theorem zero_look (w : World) : (zeroValue 102).run Try.prog w = .ok .nilFunc w := by kernel_rfl
/-- What a look-up in looks() answers. -/
theorem look_ask (w : World) (b : Nat) (hb : w.heap[b]? = some (.map lookM 4)) (z : Int) : (Instr.lookup 69 (.map (some b)) (.int .i64 z) true).run Try.prog w = .ok (.tuple #[(lookR .nilFunc (lookAt z)).1, .bool (lookR .nilFunc (lookAt z)).2]) w :=
  run_look un_look Try.underlying3 hb (isKey_int z) (zero_look w) (look_find z) true
/-- The function of a kind. -/
theorem look_fun (w : World) (cs : List Value) (M : Nd) (h : IsNd w cs M) (r : Rl) :
    (∃ f, (lookR .nilFunc (lookAt M.kind)) = (.func (.func f) #[] #[], true) ∧ Enters Try.prog f ∧ ∀ W, Calls Try.prog f #[.agg cs.toArray, .agg r.cs.toArray] W fun e w' => e = .returned (.int .i64 (M.lookE r)) ∧ Below W.heap.size W w') ∨ ((lookR .nilFunc (lookAt M.kind)) = (.nilFunc, false) ∧ M.lookE r = 0) := by
  obtain ⟨nm, kd, mu, m, lw⟩ := r
  cases h with
  | @mk kind n s ks ls ak lk ck al ll cl kid hkind hn hs hk hl hlm hrow hkids =>
    subst hl
    show (∃ f, (lookR .nilFunc (lookAt kind)) = _ ∧ _) ∨ _
    by_cases c5 : kind = 5
    · exact .inl ⟨_, by rw [c5]; rfl, enters_of Try.func61 (by kernel_rfl) rfl, fun W => by
        rw [show Nd.lookE (.mk kind n s ks ls) ⟨nm, kd, mu, m, lw⟩ = manyE ls.length m from if_pos (.inl c5)]
        exact looks1_any W kind n s ak al lk ck ls.length cl nm kd m mu lw⟩
    by_cases c6 : kind = 6
    · exact .inl ⟨_, by rw [c6]; rfl, enters_of Try.func61 (by kernel_rfl) rfl, fun W => by
        rw [show Nd.lookE (.mk kind n s ks ls) ⟨nm, kd, mu, m, lw⟩ = manyE ls.length m from if_pos (.inr c6)]
        exact looks1_any W kind n s ak al lk ck ls.length cl nm kd m mu lw⟩
    have n56 : ¬(kind = 5 ∨ kind = 6) := fun h => h.elim c5 c6
    by_cases c4 : kind = 4
    · exact .inl ⟨_, by rw [c4]; rfl, enters_of Try.func62 (by kernel_rfl) rfl, fun W => by
        rw [show Nd.lookE (.mk kind n s ks ls) ⟨nm, kd, mu, m, lw⟩ = longE s m from (if_neg n56).trans (if_pos c4)]
        exact looks2_any W kind n s ak al lk ck ls.length cl nm kd m mu lw⟩
    by_cases c3 : kind = 3
    · exact .inl ⟨_, by rw [c3]; rfl, enters_of Try.func63 (by kernel_rfl) rfl, fun W => by
        rw [show Nd.lookE (.mk kind n s ks ls) ⟨nm, kd, mu, m, lw⟩ = lowE n lw from (if_neg n56).trans ((if_neg c4).trans (if_pos c3))]
        exact looks3_any W kind n s ak al lk ck ls.length cl nm kd m mu lw⟩
    · refine .inr ⟨?_, (if_neg n56).trans ((if_neg c4).trans (if_neg c3))⟩
      show lookR .nilFunc (lookAt kind) = _
      unfold lookAt
      rw [if_neg c5, if_neg c6, if_neg c4, if_neg c3]
      rfl
theorem bx_Nd (ca : Array Value) (h : ca.size = 5) (W : World) : (Instr.box 25 (.agg ca)).run Try.prog W = .ok (.pointer (some ⟨W.heap.size, 0, none⟩)) (W.alloc (.cells ca 25 (0, 0))) := by
  obtain ⟨a, b, c, d, e, rfl⟩ : ∃ a b c d e, ca = #[a, b, c, d, e] := by
    obtain ⟨l⟩ := ca
    match l, h with
    | [a, b, c, d, e], _ => exact ⟨a, b, c, d, e, rfl⟩
  kernel_rfl
theorem bx_Rl (nm : ByteArray) (kd : Int) (mu : Bool) (m : Int) (lw : Bool) (W : World) : (Instr.box 35 (.agg #[.string nm, .int .i64 kd, .bool mu, .int .i64 m, .bool lw])).run Try.prog W = .ok (.pointer (some ⟨W.heap.size, 0, none⟩)) (W.alloc (.cells #[.string nm, .int .i64 kd, .bool mu, .int .i64 m, .bool lw] 35 (0, 0))) := by kernel_rfl
set_option maxRecDepth 100000 in
set_option maxHeartbeats 4000000 in
theorem wrong_any (w : World) (cs : List Value) (N : Nd) (h : IsNd w cs N) (r : Rl) (mb : Nat) (hmb : w.heap[mb]? = some (.map lookM 4)) :
    Calls Try.prog 41 #[.agg cs.toArray, .agg r.cs.toArray, .map (some mb)] w fun e w' => e = .returned (.int .i64 (N.wrongE r)) ∧ Below w.heap.size w w' := by
  have KG := Lib.hid (fun W hW => tget_any W cs N (h.keep hW) r.name)
  have KF := Lib.hid (fun W (hW : Below w.heap.size w W) cs' (hN : IsNd W cs' (N.get r.name)) => look_fun W cs' (N.get r.name) hN r)
  have hmbl := (Array.getElem?_eq_some_iff.1 hmb).1
  obtain ⟨rs, ers⟩ : ∃ z, z = N.wrongE r := ⟨_, rfl⟩
  rw [← ers]
  unfold Nd.wrongE at ers
  obtain ⟨ok, eok⟩ : ∃ b, b = N.has r.name := ⟨_, rfl⟩
  obtain ⟨M, eM⟩ : ∃ M, M = N.get r.name := ⟨_, rfl⟩
  rw [← eM, ← eok] at KG ers
  rw [← eM] at KF
  obtain ⟨le, ele⟩ : ∃ z, z = M.lookE r := ⟨_, rfl⟩
  rw [← ele] at ers KF
  have ERS := Lib.hid ers
  have hcs := isNd_len h
  have hcs1 := isNd_one h
  obtain ⟨ca, eca⟩ : ∃ z, z = cs.toArray := ⟨_, rfl⟩
  rw [← eca] at KG hcs hcs1 ⊢
  obtain ⟨nm, kd, mu, m, lw⟩ := r
  clear ers eM eok ele h eca
  change Calls Try.prog 41 #[.agg ca, .agg #[.string nm, .int .i64 kd, .bool mu, .int .i64 m, .bool lw], .map (some mb)] w _
  go_enter Try.func41, Try.ntmps41
  go_upto_region 0 with fail
  have hM0 := Mem.start w
  refine wp_region_lit ?_
  refine wl_new hM0 (f := fun b => .pointer (some ⟨b, 0, none⟩)) (ob := .cells ca 25 (0, 0)) (fun W => run_box_of rfl rfl (bx_Nd ca hcs W)) rfl fun b1 W1 hM1 => ?_
  simp only [nm0, nm1, nm2, nm3]
  refine wl_new hM1 (f := fun b => .pointer (some ⟨b, 0, none⟩)) (ob := .cells #[.string nm, .int .i64 kd, .bool mu, .int .i64 m, .bool lw] 35 (0, 0)) (fun W => run_box_of rfl rfl (bx_Rl nm kd mu m lw W)) rfl fun b2 W2 hM2 => ?_
  simp only [nm0, nm1, nm2, nm3]
  refine wl_pure (v := .int .i64 0) (fun W => rfl) rfl ?_
  simp only [nm0, nm1, nm2, nm3]
  refine wpList_nil ?_
  go_upto_region 1 with fail
  refine wp_region_lit ?_
  refine wl_row hM2 1 (v := .agg ca) rfl rfl rfl rfl (by rw [hcs]; exact rowNd) rfl ?_
  simp only [nm0, nm1, nm2, nm3]
  refine wl_pure (v := .pointer (some ⟨b2, 0, none⟩)) (fun W => run_field_of rfl rfl (fr_0 _ W)) rfl ?_
  simp only [nm0, nm1, nm2, nm3]
  refine wl_cell hM2 0 (v := .string nm) rfl rfl rfl rfl cellS rfl ?_
  simp only [nm0, nm1, nm2, nm3]
  refine wl_callX (args := #[.agg ca, .string nm]) (fun W => run_call_fn W (enters_of Try.func43 (by kernel_rfl) rfl) rfl (by simp [Act.eval])) (KG.out _ hM2.below) rfl ?_
  rintro e w2 ⟨cs', hN, rfl, hb⟩
  refine ⟨_, rfl, ?_⟩
  simp only [nm0, nm1, nm2, nm3]
  have hM3 := hM2.calls hb
  have hN3 := hN.keep hb
  have h5 := isNd_len hN
  have h1 := isNd_one hN
  obtain ⟨kx, ekx⟩ : ∃ z, z = cs'.toArray := ⟨_, rfl⟩
  rw [← ekx] at h5 h1 ⊢
  refine wl_pure (v := .tuple #[.agg kx, .bool ok]) (fun W => rfl) rfl ?_
  simp only [nm0, nm1, nm2, nm3]
  refine wl_pure (v := .agg kx) (fun W => rfl) rfl ?_
  simp only [nm0, nm1, nm2, nm3]
  refine wl_pure (v := .bool ok) (fun W => rfl) rfl ?_
  simp only [nm0, nm1, nm2, nm3]
  refine wl_new hM3 (f := fun b => .pointer (some ⟨b, 0, none⟩)) (fun W => run_alloc_of rfl (al_Nd W)) rfl fun b3 W4 hM4 => ?_
  simp only [nm0, nm1, nm2, nm3]
  refine wl_set hM4 0 (cs := kx) rfl rfl rfl rfl (by rw [h5]; exact rowNd) (by rw [h5]; rfl) h1 rfl rfl fun W5 hM5 => ?_
  simp only [nm2, nm3] at hM5
  refine wl_pure (v := .bool ok) (fun W => rfl) rfl ?_
  simp only [nm0, nm1, nm2, nm3]
  refine wpList_nil ?_
  have hF := KF.out w2 hM3.below cs' hN3
  rw [← ekx] at hF
  have hlk := look_ask W5 mb ((hM5.below.block mb hmbl).trans hmb) M.kind
  have HB := Lib.hid hM5.below
  have g0 := cell_of_row W5 b3 0 _ _ _ (hM5.get 0 rfl)
  have r1 := cell_of_row W5 b2 1 _ _ _ (hM5.get 1 rfl)
  have r2 := cell_of_row W5 b2 2 _ _ _ (hM5.get 1 rfl)
  have h00 : kx[0]? = some (.int .i64 M.kind) := by rw [ekx]; cases hN3; rfl
  rw [h00] at g0
  simp only [List.getElem?_toArray, List.getElem?_cons_zero, List.getElem?_cons_succ] at r1 r2
  obtain ⟨vk, evk⟩ : ∃ z, z = M.kind := ⟨_, rfl⟩
  rw [← evk] at g0 hlk hF ERS
  have HF := Lib.hid hF
  have HM := Lib.hid hM5
  clear hF hM0 hM1 hM2 hM3 hM4 hM5 hN hN3 hb KF KG h00 hmb evk ekx
  have hend : ∀ z, rs = z → ∀ a : Act, (results Try.f41 a.tmps).run Try.prog W5 = .ok (.int .i64 z) W5 → True := fun _ _ _ _ => trivial
  clear hend
  cases ok with
  | false =>
    cases mu with
    | true =>
      have hr : rs = 15 := ERS.out
      clear ERS HF hlk
      go_wp2_with fail
      rw [hr]
      exact bodyPost_ret (results_slot rfl rfl) rfl ⟨rfl, HB.out⟩
    | false =>
      have hr : rs = 0 := ERS.out
      clear ERS HF hlk
      go_wp2_with fail
      rw [hr]
      exact bodyPost_ret (results_slot rfl rfl) rfl ⟨rfl, HB.out⟩
  | true =>
    by_cases c0 : kd = 0
    · subst c0
      have hr : rs = le := by have h := ERS.out; rw [h]; simp
      clear ERS
      rcases HF.out with ⟨f, hlF, hE, hC⟩ | ⟨hlN, hz⟩
      · rw [hlF] at hlk
        clear HF hlF
        dsimp only at hlk
        go_upto_region 10 with fail
        refine wp_region_lit ?_
        refine wl_pure (v := .func (.func f) #[] #[]) (fun W => rfl) rfl ?_
        simp only [nm0, nm1, nm2, nm3]
        refine wl_row HM.out 0 (v := .agg kx) rfl rfl rfl rfl (by rw [h5]; exact rowNd) rfl ?_
        simp only [nm0, nm1, nm2, nm3]
        refine wl_row HM.out 1 (v := .agg #[.string nm, .int .i64 0, .bool mu, .int .i64 m, .bool lw]) rfl rfl rfl rfl rowRl rfl ?_
        simp only [nm0, nm1, nm2, nm3]
        refine wl_call HM.out (args := #[.agg kx, .agg #[.string nm, .int .i64 0, .bool mu, .int .i64 m, .bool lw]]) (v := .int .i64 le) (fun W => run_call_dyn W hE rfl rfl (by simp [Act.eval]; rfl) rfl) (hC W5) rfl fun W6 hM6 => ?_
        simp only [nm0, nm1, nm2, nm3]
        refine wl_pure (v := .int .i64 le) (fun W => rfl) rfl ?_
        simp only [nm0, nm1, nm2, nm3]
        refine wpList_nil ?_
        go_wp2_with fail
        rw [hr]
        exact bodyPost_ret (results_slot rfl rfl) rfl ⟨rfl, hM6.below⟩
      · rw [hlN] at hlk
        clear HF hlN
        dsimp only at hlk
        go_wp2_with fail
        rw [hr, hz]
        exact bodyPost_ret (results_slot rfl rfl) rfl ⟨rfl, HB.out⟩
    · have b0 : (kd != 0) = true := by simpa using c0
      by_cases c1 : kd = vk
      · have b1 : (kd != vk) = false := by simpa using c1
        have hr : rs = le := by have h := ERS.out; rw [h]; simp [c1]
        clear ERS c0 c1
        rcases HF.out with ⟨f, hlF, hE, hC⟩ | ⟨hlN, hz⟩
        · rw [hlF] at hlk
          clear HF hlF
          dsimp only at hlk
          go_upto_region 10 with fail
          refine wp_region_lit ?_
          refine wl_pure (v := .func (.func f) #[] #[]) (fun W => rfl) rfl ?_
          simp only [nm0, nm1, nm2, nm3]
          refine wl_row HM.out 0 (v := .agg kx) rfl rfl rfl rfl (by rw [h5]; exact rowNd) rfl ?_
          simp only [nm0, nm1, nm2, nm3]
          refine wl_row HM.out 1 (v := .agg #[.string nm, .int .i64 kd, .bool mu, .int .i64 m, .bool lw]) rfl rfl rfl rfl rowRl rfl ?_
          simp only [nm0, nm1, nm2, nm3]
          refine wl_call HM.out (args := #[.agg kx, .agg #[.string nm, .int .i64 kd, .bool mu, .int .i64 m, .bool lw]]) (v := .int .i64 le) (fun W => run_call_dyn W hE rfl rfl (by simp [Act.eval]; rfl) rfl) (hC W5) rfl fun W6 hM6 => ?_
          simp only [nm0, nm1, nm2, nm3]
          refine wl_pure (v := .int .i64 le) (fun W => rfl) rfl ?_
          simp only [nm0, nm1, nm2, nm3]
          refine wpList_nil ?_
          go_wp2_with fail
          rw [hr]
          exact bodyPost_ret (results_slot rfl rfl) rfl ⟨rfl, hM6.below⟩
        · rw [hlN] at hlk
          clear HF hlN
          dsimp only at hlk
          go_wp2_with fail
          rw [hr, hz]
          exact bodyPost_ret (results_slot rfl rfl) rfl ⟨rfl, HB.out⟩
      · have b1 : (kd != vk) = true := by simpa using c1
        have hr : rs = 16 := by have h := ERS.out; rw [h]; simp [c0, c1]
        clear ERS c0 c1 HF hlk
        go_wp2_with fail
        rw [hr]
        exact bodyPost_ret (results_slot rfl rfl) rfl ⟨rfl, HB.out⟩
end Go.Proofs.Ytbheiglbejokmaa
