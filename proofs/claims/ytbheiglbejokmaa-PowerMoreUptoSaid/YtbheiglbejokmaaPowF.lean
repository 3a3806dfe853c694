/- power.Of (layer 57). -/
import Derived.Test.YtbheiglbejokmaaPowE
namespace Go.Proofs.Ytbheiglbejokmaa
set_option maxRecDepth 20000
set_option linter.unusedSimpArgs false
set_option linter.unusedVariables false
open Go.RowKit Go.Sort Go.Lib Go.MapKept
attribute [local go_sem] Oper.semAt_some
theorem rowLv : RowTy Try.prog 53 7 := ⟨.inl ⟨_, Try.underlying53⟩, by kernel_rfl⟩
def lvZ : Array Value := #[.int .i64 0, .int .i64 0, .int .i64 0, .int .i64 0, .int .i64 0, .int .i64 0, .int .i64 0]
theorem al_Lv (W : World) : (Instr.alloc 53 true (.tuple #[])).run Try.prog W = .ok (.pointer (some ⟨W.heap.size, 0, none⟩)) (W.alloc (.cells lvZ 53 (0, 0))) := by kernel_rfl
theorem al_Ask (W : World) : (Instr.alloc 90 true (.tuple #[])).run Try.prog W = .ok (.pointer (some ⟨W.heap.size, 0, none⟩)) (W.alloc (.cells #[.nilFunc] 90 (0, 0))) := by kernel_rfl
theorem al_Map (W : World) : (Instr.alloc 92 true (.tuple #[])).run Try.prog W = .ok (.pointer (some ⟨W.heap.size, 0, none⟩)) (W.alloc (.cells #[.map none] 92 (0, 0))) := by kernel_rfl
theorem bd_Lv (a0 a1 a2 a3 a4 a5 a6 : Int) (W : World) : (Instr.build 53 #[(0, .int .i64 a0), (1, .int .i64 a1), (2, .int .i64 a2), (3, .int .i64 a3), (4, .int .i64 a4), (5, .int .i64 a5), (6, .int .i64 a6)]).run Try.prog W = .ok (.agg #[.int .i64 a0, .int .i64 a1, .int .i64 a2, .int .i64 a3, .int .i64 a4, .int .i64 a5, .int .i64 a6]) W := by kernel_rfl
/-- The seven levels. -/
def Nd.lvls (N : Nd) : Array Value := #[.int .i64 (N.lvl pnm0 50), .int .i64 (N.lvl pnm1 50), .int .i64 (N.lvl pnm2 50), .int .i64 (N.lvl pnm3 0), .int .i64 (N.lvl pnm4 50), .int .i64 (N.lvl pnm5 0), .int .i64 (N.lvl pnm6 0)]
theorem lvls_size (N : Nd) : N.lvls.size = 7 := rfl
theorem lvls_one (N : Nd) : N.lvls.all (·.oneCell') = true := by simp [Nd.lvls, Value.oneCell']
set_option maxRecDepth 100000 in
set_option maxHeartbeats 4000000 in
theorem of_any (w : World) (cs : List Value) (N : Nd) (h : IsNd w cs N) :
    Calls Try.prog 28 #[.agg cs.toArray] w fun e w' => e = .returned (.agg N.lvls) ∧ Below w.heap.size w w' := by
  have KA := Lib.hid (fun W (hb : Below w.heap.size w W) => ask_any W cs N (h.keep hb))
  have K1 := Lib.hid (fun W (hb : Below w.heap.size w W) => of1_any W cs N (h.keep hb))
  have hcs := isNd_len h
  obtain ⟨ca, eca⟩ : ∃ z, z = cs.toArray := ⟨_, rfl⟩
  rw [← eca] at hcs KA K1 ⊢
  obtain ⟨l0, el0⟩ : ∃ z, z = N.lvl pnm0 50 := ⟨_, rfl⟩
  obtain ⟨l1, el1⟩ : ∃ z, z = N.lvl pnm1 50 := ⟨_, rfl⟩
  obtain ⟨l2, el2⟩ : ∃ z, z = N.lvl pnm2 50 := ⟨_, rfl⟩
  obtain ⟨l3, el3⟩ : ∃ z, z = N.lvl pnm3 0 := ⟨_, rfl⟩
  obtain ⟨l4, el4⟩ : ∃ z, z = N.lvl pnm4 50 := ⟨_, rfl⟩
  obtain ⟨l5, el5⟩ : ∃ z, z = N.lvl pnm5 0 := ⟨_, rfl⟩
  obtain ⟨l6, el6⟩ : ∃ z, z = N.lvl pnm6 0 := ⟨_, rfl⟩
  have hlv : N.lvls = #[.int .i64 l0, .int .i64 l1, .int .i64 l2, .int .i64 l3, .int .i64 l4, .int .i64 l5, .int .i64 l6] := by rw [el0, el1, el2, el3, el4, el5, el6]; rfl
  rw [hlv]
  have K1_0 := Lib.hid (fun W hb g t3 t4 mb hg h3 h4 hm => K1.out W hb g t3 t4 mb hg h3 h4 hm pnm0 50 0 def_find0)
  rw [← el0] at K1_0
  have K1_1 := Lib.hid (fun W hb g t3 t4 mb hg h3 h4 hm => K1.out W hb g t3 t4 mb hg h3 h4 hm pnm1 50 1 def_find1)
  rw [← el1] at K1_1
  have K1_2 := Lib.hid (fun W hb g t3 t4 mb hg h3 h4 hm => K1.out W hb g t3 t4 mb hg h3 h4 hm pnm2 50 2 def_find2)
  rw [← el2] at K1_2
  have K1_3 := Lib.hid (fun W hb g t3 t4 mb hg h3 h4 hm => K1.out W hb g t3 t4 mb hg h3 h4 hm pnm3 0 3 def_find3)
  rw [← el3] at K1_3
  have K1_4 := Lib.hid (fun W hb g t3 t4 mb hg h3 h4 hm => K1.out W hb g t3 t4 mb hg h3 h4 hm pnm4 50 4 def_find4)
  rw [← el4] at K1_4
  have K1_5 := Lib.hid (fun W hb g t3 t4 mb hg h3 h4 hm => K1.out W hb g t3 t4 mb hg h3 h4 hm pnm5 0 5 def_find5)
  rw [← el5] at K1_5
  have K1_6 := Lib.hid (fun W hb g t3 t4 mb hg h3 h4 hm => K1.out W hb g t3 t4 mb hg h3 h4 hm pnm6 0 6 def_find6)
  rw [← el6] at K1_6
  clear h eca hlv K1 el0 el1 el2 el3 el4 el5 el6
  go_enter Try.func28, Try.ntmps28
  go_upto_region 0 with fail
  have hM0 := Mem.start w
  refine wp_region_lit ?_
  refine wl_new hM0 (f := fun b => .pointer (some ⟨b, 0, none⟩)) (ob := .cells ca 25 (0, 0)) (fun W => run_box_of rfl rfl (bx_Nd ca hcs W)) rfl fun b1 W1 hM1 => ?_
  simp only [nm0, nm1, nm2, nm3]
  refine wl_new hM1 (f := fun b => .pointer (some ⟨b, 0, none⟩)) (fun W => run_alloc_of rfl (al_Lv W)) rfl fun b2 W2 hM2 => ?_
  simp only [nm0, nm1, nm2, nm3]
  refine wpList_nil ?_
  go_upto_region 1 with fail
  refine wp_region_lit ?_
  refine wl_row hM2 1 (v := .agg ca) rfl rfl rfl rfl (by rw [hcs]; exact rowNd) rfl ?_
  simp only [nm0, nm1, nm2, nm3]
  refine wl_callX (args := #[.agg ca]) (fun W => run_call_fn W (enters_of Try.func54 (by kernel_rfl) rfl) rfl (by simp [Act.eval])) (KA.out W2 hM2.below) rfl ?_
  rintro e W3 ⟨g, rfl, hg, _, hb3⟩
  refine ⟨_, rfl, ?_⟩
  simp only [nm0, nm1, nm2, nm3]
  have hM3 := hM2.calls hb3
  refine wl_callX (args := #[]) (fun W => run_call_fn W (enters_of Try.func55 (by kernel_rfl) rfl) rfl (by simp [Act.eval])) (defaults_any W3) rfl ?_
  rintro e W4 ⟨mb, rfl, hmb, _, hb4⟩
  refine ⟨_, rfl, ?_⟩
  simp only [nm0, nm1, nm2, nm3]
  have hM4 := hM3.calls hb4
  have hg4 := (hb4.block g (Array.getElem?_eq_some_iff.1 hg).1).trans hg
  have lg := (Array.getElem?_eq_some_iff.1 hg4).1
  have lm := (Array.getElem?_eq_some_iff.1 hmb).1
  refine wl_new (Mem.start W4) (f := fun b => .pointer (some ⟨b, 0, none⟩)) (fun W => run_alloc_of rfl (al_Ask W)) rfl fun t3 W5 hM5 => ?_
  simp only [nm0, nm1, nm2, nm3]
  refine wl_new hM5 (f := fun b => .pointer (some ⟨b, 0, none⟩)) (fun W => run_alloc_of rfl (al_Map W)) rfl fun t4 W6 hM6 => ?_
  simp only [nm0, nm1, nm2, nm3]
  refine wl_setat hM6 1 (cs' := #[.func (.func 69) #[] #[.pointer (some ⟨g, 0, none⟩)]]) rfl rfl rfl rfl (by decide) rfl cellAsk rfl rfl rfl fun W7 hM7 => ?_
  simp only [nm2, nm3] at hM7
  refine wl_setat hM7 0 (cs' := #[.map (some mb)]) rfl rfl rfl rfl (by decide) rfl cellMap rfl rfl rfl fun W8 hM8 => ?_
  simp only [nm2, nm3] at hM8
  refine wpList_nil ?_
  have hw8 := hM4.calls hM8.below
  have g8 := (hM8.below.block g lg).trans hg4
  have m8 := (hM8.below.block mb lm).trans hmb
  have t38 := hM8.get 1 rfl
  have t48 := hM8.get 0 rfl
  have HG := Lib.hid g8
  have HMB := Lib.hid m8
  have H3 := Lib.hid t38
  have H4 := Lib.hid t48
  have HW8 := Lib.hid hw8
  have q1 := (Array.getElem?_eq_some_iff.1 g8).1
  have q2 := (Array.getElem?_eq_some_iff.1 m8).1
  have q3 := (Array.getElem?_eq_some_iff.1 t38).1
  have q4 := (Array.getElem?_eq_some_iff.1 t48).1
  clear hM0 hM1 hM2 hM3 hM4 hM5 hM6 hM7 hM8 hb3 hb4 hg hg4 hmb lg lm hw8 g8 m8 t38 t48 KA
  go_upto_region 2 with fail
  refine wp_region_lit ?_
  refine wl_pure (v := .func (.func 56) #[] #[.pointer (some ⟨t3, 0, none⟩), .pointer (some ⟨t4, 0, none⟩)]) (fun W => run_makeFunc_of rfl (by simp [Instr.makeFunc, Act.eval])) rfl ?_
  simp only [nm0, nm1, nm2, nm3]
  refine wl_pure (v := .func (.func 56) #[] #[.pointer (some ⟨t3, 0, none⟩), .pointer (some ⟨t4, 0, none⟩)]) (fun W => rfl) rfl ?_
  simp only [nm0, nm1, nm2, nm3]
  refine wpList_nil ?_
  have hV0 := HW8.out
  have hB0 := Below.refl W8.heap.size W8
  go_upto_region 3 with fail
  refine wp_region_lit ?_
  refine wl_pure (v := .func (.func 56) #[] #[.pointer (some ⟨t3, 0, none⟩), .pointer (some ⟨t4, 0, none⟩)]) (fun W => rfl) rfl ?_
  simp only [nm0, nm1, nm2, nm3]
  refine wl_callX (args := #[.string pnm0, .pointer (some ⟨t3, 0, none⟩), .pointer (some ⟨t4, 0, none⟩)]) (fun W => run_call_dyn W (enters_of Try.func56 (by kernel_rfl) rfl) rfl rfl (by simp [Act.eval]; rfl) rfl) (K1_0.out W8 hV0.below g t3 t4 mb ((hB0.block g q1).trans HG.out) ((hB0.block t3 q3).trans H3.out) ((hB0.block t4 q4).trans H4.out) ((hB0.block mb q2).trans HMB.out)) rfl ?_
  rintro e U1 ⟨rfl, hb⟩
  refine ⟨_, rfl, ?_⟩
  simp only [nm0, nm1, nm2, nm3]
  have hV1 := hV0.calls hb
  have hB1 := hB0.trans (hb.mono hB0.size)
  clear hb
  refine wl_pure (v := .func (.func 56) #[] #[.pointer (some ⟨t3, 0, none⟩), .pointer (some ⟨t4, 0, none⟩)]) (fun W => rfl) rfl ?_
  simp only [nm0, nm1, nm2, nm3]
  refine wl_callX (args := #[.string pnm1, .pointer (some ⟨t3, 0, none⟩), .pointer (some ⟨t4, 0, none⟩)]) (fun W => run_call_dyn W (enters_of Try.func56 (by kernel_rfl) rfl) rfl rfl (by simp [Act.eval]; rfl) rfl) (K1_1.out U1 hV1.below g t3 t4 mb ((hB1.block g q1).trans HG.out) ((hB1.block t3 q3).trans H3.out) ((hB1.block t4 q4).trans H4.out) ((hB1.block mb q2).trans HMB.out)) rfl ?_
  rintro e U2 ⟨rfl, hb⟩
  refine ⟨_, rfl, ?_⟩
  simp only [nm0, nm1, nm2, nm3]
  have hV2 := hV1.calls hb
  have hB2 := hB1.trans (hb.mono hB1.size)
  clear hb
  refine wl_pure (v := .func (.func 56) #[] #[.pointer (some ⟨t3, 0, none⟩), .pointer (some ⟨t4, 0, none⟩)]) (fun W => rfl) rfl ?_
  simp only [nm0, nm1, nm2, nm3]
  refine wl_callX (args := #[.string pnm2, .pointer (some ⟨t3, 0, none⟩), .pointer (some ⟨t4, 0, none⟩)]) (fun W => run_call_dyn W (enters_of Try.func56 (by kernel_rfl) rfl) rfl rfl (by simp [Act.eval]; rfl) rfl) (K1_2.out U2 hV2.below g t3 t4 mb ((hB2.block g q1).trans HG.out) ((hB2.block t3 q3).trans H3.out) ((hB2.block t4 q4).trans H4.out) ((hB2.block mb q2).trans HMB.out)) rfl ?_
  rintro e U3 ⟨rfl, hb⟩
  refine ⟨_, rfl, ?_⟩
  simp only [nm0, nm1, nm2, nm3]
  have hV3 := hV2.calls hb
  have hB3 := hB2.trans (hb.mono hB2.size)
  clear hb
  refine wl_pure (v := .func (.func 56) #[] #[.pointer (some ⟨t3, 0, none⟩), .pointer (some ⟨t4, 0, none⟩)]) (fun W => rfl) rfl ?_
  simp only [nm0, nm1, nm2, nm3]
  refine wl_callX (args := #[.string pnm3, .pointer (some ⟨t3, 0, none⟩), .pointer (some ⟨t4, 0, none⟩)]) (fun W => run_call_dyn W (enters_of Try.func56 (by kernel_rfl) rfl) rfl rfl (by simp [Act.eval]; rfl) rfl) (K1_3.out U3 hV3.below g t3 t4 mb ((hB3.block g q1).trans HG.out) ((hB3.block t3 q3).trans H3.out) ((hB3.block t4 q4).trans H4.out) ((hB3.block mb q2).trans HMB.out)) rfl ?_
  rintro e U4 ⟨rfl, hb⟩
  refine ⟨_, rfl, ?_⟩
  simp only [nm0, nm1, nm2, nm3]
  have hV4 := hV3.calls hb
  have hB4 := hB3.trans (hb.mono hB3.size)
  clear hb
  refine wl_pure (v := .func (.func 56) #[] #[.pointer (some ⟨t3, 0, none⟩), .pointer (some ⟨t4, 0, none⟩)]) (fun W => rfl) rfl ?_
  simp only [nm0, nm1, nm2, nm3]
  refine wl_callX (args := #[.string pnm4, .pointer (some ⟨t3, 0, none⟩), .pointer (some ⟨t4, 0, none⟩)]) (fun W => run_call_dyn W (enters_of Try.func56 (by kernel_rfl) rfl) rfl rfl (by simp [Act.eval]; rfl) rfl) (K1_4.out U4 hV4.below g t3 t4 mb ((hB4.block g q1).trans HG.out) ((hB4.block t3 q3).trans H3.out) ((hB4.block t4 q4).trans H4.out) ((hB4.block mb q2).trans HMB.out)) rfl ?_
  rintro e U5 ⟨rfl, hb⟩
  refine ⟨_, rfl, ?_⟩
  simp only [nm0, nm1, nm2, nm3]
  have hV5 := hV4.calls hb
  have hB5 := hB4.trans (hb.mono hB4.size)
  clear hb
  refine wl_pure (v := .func (.func 56) #[] #[.pointer (some ⟨t3, 0, none⟩), .pointer (some ⟨t4, 0, none⟩)]) (fun W => rfl) rfl ?_
  simp only [nm0, nm1, nm2, nm3]
  refine wl_callX (args := #[.string pnm5, .pointer (some ⟨t3, 0, none⟩), .pointer (some ⟨t4, 0, none⟩)]) (fun W => run_call_dyn W (enters_of Try.func56 (by kernel_rfl) rfl) rfl rfl (by simp [Act.eval]; rfl) rfl) (K1_5.out U5 hV5.below g t3 t4 mb ((hB5.block g q1).trans HG.out) ((hB5.block t3 q3).trans H3.out) ((hB5.block t4 q4).trans H4.out) ((hB5.block mb q2).trans HMB.out)) rfl ?_
  rintro e U6 ⟨rfl, hb⟩
  refine ⟨_, rfl, ?_⟩
  simp only [nm0, nm1, nm2, nm3]
  have hV6 := hV5.calls hb
  have hB6 := hB5.trans (hb.mono hB5.size)
  clear hb
  refine wl_pure (v := .func (.func 56) #[] #[.pointer (some ⟨t3, 0, none⟩), .pointer (some ⟨t4, 0, none⟩)]) (fun W => rfl) rfl ?_
  simp only [nm0, nm1, nm2, nm3]
  refine wl_callX (args := #[.string pnm6, .pointer (some ⟨t3, 0, none⟩), .pointer (some ⟨t4, 0, none⟩)]) (fun W => run_call_dyn W (enters_of Try.func56 (by kernel_rfl) rfl) rfl rfl (by simp [Act.eval]; rfl) rfl) (K1_6.out U6 hV6.below g t3 t4 mb ((hB6.block g q1).trans HG.out) ((hB6.block t3 q3).trans H3.out) ((hB6.block t4 q4).trans H4.out) ((hB6.block mb q2).trans HMB.out)) rfl ?_
  rintro e U7 ⟨rfl, hb⟩
  refine ⟨_, rfl, ?_⟩
  simp only [nm0, nm1, nm2, nm3]
  have hV7 := hV6.calls hb
  have hB7 := hB6.trans (hb.mono hB6.size)
  clear hb
  refine wl_pure (v := .agg #[.int .i64 l0, .int .i64 l1, .int .i64 l2, .int .i64 l3, .int .i64 l4, .int .i64 l5, .int .i64 l6]) (fun W => run_build_of (ps := #[(0, .int .i64 l0), (1, .int .i64 l1), (2, .int .i64 l2), (3, .int .i64 l3), (4, .int .i64 l4), (5, .int .i64 l5), (6, .int .i64 l6)]) rfl (by simp [Act.eval]) (bd_Lv _ _ _ _ _ _ _ W)) rfl ?_
  simp only [nm0, nm1, nm2, nm3]
  refine wl_set hV7 0 (cs := #[.int .i64 l0, .int .i64 l1, .int .i64 l2, .int .i64 l3, .int .i64 l4, .int .i64 l5, .int .i64 l6]) rfl rfl rfl rfl rowLv rfl (by simp [Value.oneCell']) rfl rfl fun W9 hM9 => ?_
  simp only [nm2, nm3] at hM9
  refine wpList_nil ?_
  go_wp2_with fail
  exact bodyPost_ret (results_c rfl rfl (hM9.load 0 rfl rowLv)) rfl ⟨rfl, hM9.below⟩
end Go.Proofs.Ytbheiglbejokmaa
