/- FieldRules (layer 29): its walk. -/
import Derived.Test.YtbheiglbejokmaaFldL
namespace Go.Proofs.Ytbheiglbejokmaa
set_option maxRecDepth 20000
set_option linter.unusedSimpArgs false
set_option linter.unusedVariables false
open Go.RowKit Go.Sort Go.Lib
attribute [local go_sem] Oper.semAt_some
theorem texts_strs {w : World} {a : Option Addr} {len cap : Nat} {ss : List ByteArray} (h : IsTexts w a len cap ss) : IsStrs w a len (ss.take len) := by
  have hat := fun h0 => texts_at h h0
  rcases h with ⟨rfl, rfl, rfl, rfl⟩ | ⟨x, rfl, hl, hm, hz, hcell, hws⟩
  · exact ⟨rfl, Nat.zero_le _, by simp, ⟨fun h => absurd h (by omega)⟩⟩
  · refine ⟨by rw [List.length_take]; omega, by omega, fun s hs => hws s (List.mem_of_mem_take hs), ⟨fun h0 => ?_⟩⟩
    obtain ⟨b, off, e, hb, hc, _⟩ := hat h0
    refine ⟨b, off, e, hb, fun i hi => ⟨rfl, fun j hj => ?_⟩⟩
    obtain rfl : j = 0 := by omega
    rw [Nat.mul_one, Nat.add_zero, hc i hi]
    have e2 : (ss.take len).getD i ByteArray.empty = ss.getD i ByteArray.empty := by
      simp [List.getElem?_take_of_lt hi]
    rw [e2]
    rfl
theorem neq_Rl (r : Rl) (x y : Operand) (W : World) : ((do eqGuard .neq 35 x y (.agg r.cs.toArray) (.agg r.cs.toArray); binOp .neq 35 (.agg r.cs.toArray) (.agg r.cs.toArray) : Sem Value).run Try.prog W) = .ok (.bool false) W := by
  obtain ⟨nm, kd, mu, m, lw⟩ := r
  show ((do eqGuard .neq 35 x y (.agg #[.string nm, .int .i64 kd, .bool mu, .int .i64 m, .bool lw]) (.agg #[.string nm, .int .i64 kd, .bool mu, .int .i64 m, .bool lw]); binOp .neq 35 (.agg #[.string nm, .int .i64 kd, .bool mu, .int .i64 m, .bool lw]) (.agg #[.string nm, .int .i64 kd, .bool mu, .int .i64 m, .bool lw]) : Sem Value).run Try.prog W) = .ok (.bool false) W
  go_simp
theorem bd_R1 (nm : ByteArray) (kd : Int) (W : World) : (Instr.build 35 #[(0, .string nm), (1, .int .i64 kd), (2, .bool true)]).run Try.prog W = .ok (.agg (Rl.cs ⟨nm, kd, true, 0, false⟩).toArray) W := by kernel_rfl
theorem bd_R2 (nm : ByteArray) (kd : Int) (W : World) : (Instr.build 35 #[(0, .string nm), (1, .int .i64 kd)]).run Try.prog W = .ok (.agg (Rl.cs ⟨nm, kd, false, 0, false⟩).toArray) W := by kernel_rfl
theorem bd_R3 (nm : ByteArray) (kd m : Int) (W : World) : (Instr.build 35 #[(0, .string nm), (1, .int .i64 kd), (2, .bool true), (3, .int .i64 m)]).run Try.prog W = .ok (.agg (Rl.cs ⟨nm, kd, true, m, false⟩).toArray) W := by kernel_rfl
theorem bd_R4 (nm : ByteArray) (kd : Int) (W : World) : (Instr.build 35 #[(0, .string nm), (1, .int .i64 kd), (4, .bool true)]).run Try.prog W = .ok (.agg (Rl.cs ⟨nm, kd, false, 0, true⟩).toArray) W := by kernel_rfl
/-- A rule of a list that was made of names, where it lies. -/
theorem rl_at {w : World} {a : Option Addr} {len : Nat} {NS : List ByteArray} (F : ByteArray → Rl) (hr : RowAt w a len 5 (fun i => ((NS.map F).getD i rl0).cs)) (hl : NS.length = len) {k : Nat} (hk : k < len) : ∃ b off, a = some ⟨b, off, none⟩ ∧ ∀ j v, (F (NS.getD k ByteArray.empty)).cs.toArray.toList[j]? = some v → w.cell? ⟨b, off + k * 5 + j, none⟩ = some v := by
  obtain ⟨b, off, rfl, _⟩ := hr.at_ (by omega)
  refine ⟨b, off, rfl, ?_⟩
  have h := hr.cells hk
  have e : (NS.map F).getD k rl0 = F (NS.getD k ByteArray.empty) := by simp [show k < NS.length from by omega]
  rw [e] at h
  exact h
set_option maxRecDepth 100000 in
set_option maxHeartbeats 4000000 in
theorem fieldRules_walk (kind most : Int) (a : Option Addr) (len cap : Nat) (ss : List ByteArray) (W : World) (_wk : (Lit.int .i64 kind).wf = true) (_wm : (Lit.int .i64 most).wf = true) (h : IsTexts W a len cap ss) :
    Calls Try.prog 4 #[.int .i64 kind, .int .i64 most, .slice a len cap] W fun e w' => e = .returned (.bool true) ∧ Below W.heap.size W w' := by
  have HN := Lib.hid (texts_strs h)
  obtain ⟨NS, eNS⟩ : ∃ z, z = ss.take len := ⟨_, rfl⟩
  rw [← eNS] at HN
  have KL := Lib.hid lives29_any
  clear h eNS
  by_cases hbig : 30 < len
  · have b1 : decide ((len : Int) > 30) = true := decide_eq_true (by omega)
    go_enter Try.func4, Try.ntmps4
    go_wp2_with fail
    refine (KL.out W).mono ?_
    rintro e W1 ⟨rfl, hb⟩
    have HB := Lib.hid hb
    clear hb
    go_wp2_with fail
    exact bodyPost_ret (results_slot rfl rfl) rfl ⟨rfl, HB.out⟩
  · have b1 : decide ((len : Int) > 30) = false := decide_eq_false (by omega)
    have HLN := Lib.hid HN.out.1
    go_enter Try.func4, Try.ntmps4
    go_wp2_with fail
    refine (must_any W kind a len cap NS HN.out (by omega)).mono ?_
    rintro e W1 ⟨v7, rfl, r7, hb1⟩
    have HB1 := Lib.hid hb1
    have H7 := Lib.hid r7
    clear r7 hb1
    go_wp2_with fail
    refine (may_any W1 kind a len cap NS ⟨HN.out.1, HN.out.2.1, HN.out.2.2.1, HN.out.2.2.2.below HB1.out⟩ (by omega)).mono ?_
    rintro e W2 ⟨v8, rfl, r8, hb2⟩
    have HB2 := Lib.hid hb2
    have H8 := Lib.hid r8
    clear r8 hb2
    go_wp2_with fail
    refine (most_any W2 most v7 _ (H7.out.keep HB2.out) (by rw [List.length_map, HLN.out]; omega)).mono ?_
    rintro e W3 ⟨v9, rfl, r9, hb3⟩
    have HB3 := Lib.hid hb3
    have H9 := Lib.hid r9
    clear r9 hb3
    go_wp2_with fail
    refine (low_any W3 v8 _ (H8.out.keep HB3.out) (by rw [List.length_map, HLN.out]; omega)).mono ?_
    rintro e W4 ⟨v10, rfl, r10, hb4⟩
    have h7 := (H7.out.keep HB2.out).keep HB3.out |>.keep hb4
    have h8 := (H8.out.keep HB3.out).keep hb4
    have h9 := H9.out.keep hb4
    rw [List.map_map] at h9 r10
    obtain ⟨a7, l7, c7, rfl, e7, m7, row7⟩ := h7
    obtain ⟨a8, l8, c8, rfl, e8, m8, row8⟩ := h8
    obtain ⟨a9, l9, c9, rfl, e9, m9, row9⟩ := h9
    obtain ⟨a10, l10, c10, rfl, e10, m10, row10⟩ := r10
    rw [List.length_map, HLN.out] at e7 e8 e9 e10
    subst e7 e8 e9 e10
    have HBW := Lib.hid (HB1.out.trans ((HB2.out.trans ((HB3.out.trans (hb4.mono HB3.out.size)).mono HB2.out.size)).mono HB1.out.size))
    have R7 := Lib.hid row7
    have R8 := Lib.hid row8
    have R9 := Lib.hid row9
    have R10 := Lib.hid row10
    clear row7 row8 row9 row10 HB1 HB2 HB3 hb4 H7 H8 H9 m7 m8 m9 m10
    have HS4 := Lib.hid (fun h0 => str_at (show IsStrs W4 a len NS from ⟨HN.out.1, HN.out.2.1, HN.out.2.2.1, HN.out.2.2.2.below HBW.out⟩) h0)
    go_wp2_with fail
    go_loopw [56] (fun i wr => ∃ k : Nat, i = .int .i64 (k : Int) ∧ k ≤ len ∧ Below W4.heap.size W4 wr) (fun i _ => len - (Go.RowKit.intOf i).toNat)
    case atStart => exact ⟨0, rfl, Nat.zero_le _, Below.refl _ _⟩
    case round =>
      obtain ⟨k, rfl, hk, hb⟩ := hrel
      have HB := Lib.hid hb
      by_cases hlt : k < len
      · have b2 : decide ((k : Int) < (len : Int)) = true := decide_eq_true (by omega)
        obtain ⟨b, off, rfl, hbl, hc⟩ := HS4.out (by omega)
        have cK : wr.cell? ⟨b, off + k, none⟩ = some (.string (NS.getD k ByteArray.empty)) := (hb.cell (p := ⟨b, off + k, none⟩) hbl).trans (hc k hlt)
        clear hc
        obtain ⟨b7, o7, rfl, C7⟩ := rl_at _ (R7.out.below hb) HLN.out hlt
        obtain ⟨b8, o8, rfl, C8⟩ := rl_at _ (R8.out.below hb) HLN.out hlt
        obtain ⟨b9, o9, rfl, C9⟩ := rl_at _ (R9.out.below hb) HLN.out hlt
        obtain ⟨b10, o10, rfl, C10⟩ := rl_at _ (R10.out.below hb) HLN.out hlt
        obtain ⟨x, ex⟩ : ∃ x, x = NS.getD k ByteArray.empty := ⟨_, rfl⟩
        rw [← ex] at cK C7 C8 C9 C10
        obtain ⟨r7, er7⟩ : ∃ r : Rl, r = ⟨x, kind, true, 0, false⟩ := ⟨_, rfl⟩
        obtain ⟨r8, er8⟩ : ∃ r : Rl, r = ⟨x, kind, false, 0, false⟩ := ⟨_, rfl⟩
        obtain ⟨r9, er9⟩ : ∃ r : Rl, r = ⟨x, kind, true, most, false⟩ := ⟨_, rfl⟩
        obtain ⟨r10, er10⟩ : ∃ r : Rl, r = ⟨x, kind, false, 0, true⟩ := ⟨_, rfl⟩
        change ∀ j v, (Rl.cs ⟨x, kind, true, 0, false⟩).toArray.toList[j]? = some v → _ at C7
        change ∀ j v, (Rl.cs ⟨x, kind, false, 0, false⟩).toArray.toList[j]? = some v → _ at C8
        change ∀ j v, (Rl.cs ⟨x, kind, true, most, false⟩).toArray.toList[j]? = some v → _ at C9
        change ∀ j v, (Rl.cs ⟨x, kind, false, 0, true⟩).toArray.toList[j]? = some v → _ at C10
        have B7 := fun W => bd_R1 x kind W
        have B8 := fun W => bd_R2 x kind W
        have B9 := fun W => bd_R3 x kind most W
        have B10 := fun W => bd_R4 x kind W
        rw [← er7] at C7 B7
        rw [← er8] at C8 B8
        rw [← er9] at C9 B9
        rw [← er10] at C10 B10
        have HC7 := Lib.hid C7
        have HC8 := Lib.hid C8
        have HC9 := Lib.hid C9
        have HC10 := Lib.hid C10
        have HB7 := Lib.hid B7
        have HB8 := Lib.hid B8
        have HB9 := Lib.hid B9
        have HB10 := Lib.hid B10
        have Q7 := Lib.hid (neq_Rl r7)
        have Q8 := Lib.hid (neq_Rl r8)
        have Q9 := Lib.hid (neq_Rl r9)
        have Q10 := Lib.hid (neq_Rl r10)
        have z7 : r7.cs.toArray.size = 5 := rfl
        have z8 : r8.cs.toArray.size = 5 := rfl
        have z9 : r9.cs.toArray.size = 5 := rfl
        have z10 : r10.cs.toArray.size = 5 := rfl
        obtain ⟨y7, ey7⟩ : ∃ y, y = r7.cs.toArray := ⟨_, rfl⟩
        obtain ⟨y8, ey8⟩ : ∃ y, y = r8.cs.toArray := ⟨_, rfl⟩
        obtain ⟨y9, ey9⟩ : ∃ y, y = r9.cs.toArray := ⟨_, rfl⟩
        obtain ⟨y10, ey10⟩ : ∃ y, y = r10.cs.toArray := ⟨_, rfl⟩
        rw [← ey7] at HC7 HB7 Q7 z7
        rw [← ey8] at HC8 HB8 Q8 z8
        rw [← ey9] at HC9 HB9 Q9 z9
        rw [← ey10] at HC10 HB10 Q10 z10
        clear C7 C8 C9 C10 B7 B8 B9 B10 er7 er8 er9 er10 ey7 ey8 ey9 ey10 ex hb
        go_upto_region 10 with fail
        refine wp_region_lit ?_
        refine wl_pure (v := .slice (some ⟨b7, o7, none⟩) len c7) (fun W => rfl) rfl ?_
        simp only [nm0, nm1, nm2, nm3]
        refine wl_pure (v := .int .i64 (k : Int)) (fun W => rfl) rfl ?_
        simp only [nm0, nm1, nm2, nm3]
        refine wl_pure (v := .pointer (some ⟨b7, o7 + k * 5, none⟩)) (fun W => run_index_of rfl rfl rfl (ix_Rl b7 o7 len c7 k hlt W)) rfl ?_
        simp only [nm0, nm1, nm2, nm3]
        refine wl_val (v := .agg y7) (run_load_cs rfl rfl HC7.out (by rw [z7]; exact rowRl)) rfl ?_
        simp only [nm0, nm1, nm2, nm3]
        refine wl_pure (v := .string x) (fun W => rfl) rfl ?_
        simp only [nm0, nm1, nm2, nm3]
        refine wl_pure (v := .int .i64 kind) (fun W => rfl) rfl ?_
        simp only [nm0, nm1, nm2, nm3]
        refine wl_pure (v := .agg y7) (fun W => run_build_of (ps := #[(0, .string x), (1, .int .i64 kind), (2, .bool true)]) rfl (by simp [Act.eval]) (HB7.out W)) rfl ?_
        simp only [nm0, nm1, nm2, nm3]
        refine wl_pure (v := .bool false) (fun W => run_bin_of rfl rfl rfl (Q7.out _ _ W)) rfl ?_
        simp only [nm0, nm1, nm2, nm3]
        refine wl_pure (v := .bool false) (fun W => rfl) rfl ?_
        simp only [nm0, nm1, nm2, nm3]
        refine wl_pure (v := .slice (some ⟨b8, o8, none⟩) len c8) (fun W => rfl) rfl ?_
        simp only [nm0, nm1, nm2, nm3]
        refine wl_pure (v := .int .i64 (k : Int)) (fun W => rfl) rfl ?_
        simp only [nm0, nm1, nm2, nm3]
        refine wl_pure (v := .pointer (some ⟨b8, o8 + k * 5, none⟩)) (fun W => run_index_of rfl rfl rfl (ix_Rl b8 o8 len c8 k hlt W)) rfl ?_
        simp only [nm0, nm1, nm2, nm3]
        refine wl_val (v := .agg y8) (run_load_cs rfl rfl HC8.out (by rw [z8]; exact rowRl)) rfl ?_
        simp only [nm0, nm1, nm2, nm3]
        refine wl_pure (v := .string x) (fun W => rfl) rfl ?_
        simp only [nm0, nm1, nm2, nm3]
        refine wl_pure (v := .int .i64 kind) (fun W => rfl) rfl ?_
        simp only [nm0, nm1, nm2, nm3]
        refine wl_pure (v := .agg y8) (fun W => run_build_of (ps := #[(0, .string x), (1, .int .i64 kind)]) rfl (by simp [Act.eval]) (HB8.out W)) rfl ?_
        simp only [nm0, nm1, nm2, nm3]
        refine wl_pure (v := .bool false) (fun W => run_bin_of rfl rfl rfl (Q8.out _ _ W)) rfl ?_
        simp only [nm0, nm1, nm2, nm3]
        refine wl_pure (v := .bool false) (fun W => rfl) rfl ?_
        simp only [nm0, nm1, nm2, nm3]
        refine wl_pure (v := .bool false) (fun W => rfl) rfl ?_
        simp only [nm0, nm1, nm2, nm3]
        refine wl_pure (v := .slice (some ⟨b9, o9, none⟩) len c9) (fun W => rfl) rfl ?_
        simp only [nm0, nm1, nm2, nm3]
        refine wl_pure (v := .int .i64 (k : Int)) (fun W => rfl) rfl ?_
        simp only [nm0, nm1, nm2, nm3]
        refine wl_pure (v := .pointer (some ⟨b9, o9 + k * 5, none⟩)) (fun W => run_index_of rfl rfl rfl (ix_Rl b9 o9 len c9 k hlt W)) rfl ?_
        simp only [nm0, nm1, nm2, nm3]
        refine wl_val (v := .agg y9) (run_load_cs rfl rfl HC9.out (by rw [z9]; exact rowRl)) rfl ?_
        simp only [nm0, nm1, nm2, nm3]
        refine wl_pure (v := .string x) (fun W => rfl) rfl ?_
        simp only [nm0, nm1, nm2, nm3]
        refine wl_pure (v := .int .i64 kind) (fun W => rfl) rfl ?_
        simp only [nm0, nm1, nm2, nm3]
        refine wl_pure (v := .int .i64 most) (fun W => rfl) rfl ?_
        simp only [nm0, nm1, nm2, nm3]
        refine wl_pure (v := .agg y9) (fun W => run_build_of (ps := #[(0, .string x), (1, .int .i64 kind), (2, .bool true), (3, .int .i64 most)]) rfl (by simp [Act.eval]) (HB9.out W)) rfl ?_
        simp only [nm0, nm1, nm2, nm3]
        refine wl_pure (v := .bool false) (fun W => run_bin_of rfl rfl rfl (Q9.out _ _ W)) rfl ?_
        simp only [nm0, nm1, nm2, nm3]
        refine wl_pure (v := .bool false) (fun W => rfl) rfl ?_
        simp only [nm0, nm1, nm2, nm3]
        refine wl_pure (v := .bool false) (fun W => rfl) rfl ?_
        simp only [nm0, nm1, nm2, nm3]
        refine wl_pure (v := .slice (some ⟨b10, o10, none⟩) len c10) (fun W => rfl) rfl ?_
        simp only [nm0, nm1, nm2, nm3]
        refine wl_pure (v := .int .i64 (k : Int)) (fun W => rfl) rfl ?_
        simp only [nm0, nm1, nm2, nm3]
        refine wl_pure (v := .pointer (some ⟨b10, o10 + k * 5, none⟩)) (fun W => run_index_of rfl rfl rfl (ix_Rl b10 o10 len c10 k hlt W)) rfl ?_
        simp only [nm0, nm1, nm2, nm3]
        refine wl_val (v := .agg y10) (run_load_cs rfl rfl HC10.out (by rw [z10]; exact rowRl)) rfl ?_
        simp only [nm0, nm1, nm2, nm3]
        refine wl_pure (v := .string x) (fun W => rfl) rfl ?_
        simp only [nm0, nm1, nm2, nm3]
        refine wl_pure (v := .int .i64 kind) (fun W => rfl) rfl ?_
        simp only [nm0, nm1, nm2, nm3]
        refine wl_pure (v := .agg y10) (fun W => run_build_of (ps := #[(0, .string x), (1, .int .i64 kind), (4, .bool true)]) rfl (by simp [Act.eval]) (HB10.out W)) rfl ?_
        simp only [nm0, nm1, nm2, nm3]
        refine wl_pure (v := .bool false) (fun W => run_bin_of rfl rfl rfl (Q10.out _ _ W)) rfl ?_
        simp only [nm0, nm1, nm2, nm3]
        refine wl_pure (v := .bool false) (fun W => rfl) rfl ?_
        simp only [nm0, nm1, nm2, nm3]
        refine wpList_nil ?_
        clear HC7 HC8 HC9 HC10 HB7 HB8 HB9 HB10 Q7 Q8 Q9 Q10 R7 R8 R9 R10 cK
        go_wp2_with fail
        exact ⟨⟨k + 1, rfl, hlt, HB.out⟩, by show len - ((k : Int) + 1).toNat < len - (k : Int).toNat; omega⟩
      · have b2 : decide ((k : Int) < (len : Int)) = false := decide_eq_false (by omega)
        have HBR := Lib.hid (HBW.out.trans (hb.mono HBW.out.size))
        clear hb
        go_wp2_with fail
        refine (KL.out wr).mono ?_
        rintro e W5 ⟨rfl, hb5⟩
        have HB5 := Lib.hid (HBR.out.trans (hb5.mono HBR.out.size))
        clear hb5
        go_wp2_with fail
        exact bodyPost_ret (results_slot rfl rfl) rfl ⟨rfl, HB5.out⟩
end Go.Proofs.Ytbheiglbejokmaa
