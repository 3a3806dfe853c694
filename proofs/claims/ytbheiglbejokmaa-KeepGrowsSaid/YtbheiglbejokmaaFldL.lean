/- Layer 29's examples: lives. -/
import Derived.Test.YtbheiglbejokmaaMakB
namespace Go.Proofs.Ytbheiglbejokmaa
set_option maxRecDepth 20000
set_option linter.unusedSimpArgs false
set_option linter.unusedVariables false
open Go.RowKit Go.Sort Go.Lib
attribute [local go_sem] Oper.semAt_some
theorem isNd_text (w : World) (s : ByteArray) (hs : s.size ≤ maxLen) : IsNd w [.int .i64 4, .int .i64 0, .string s, .slice none 0 0, .slice none 0 0] (.mk 4 0 s [] []) :=
  .mk (fun _ => []) (by decide) (by decide) hs ⟨rfl, Nat.zero_le _, by simp, ⟨fun h => absurd h (by omega)⟩⟩ rfl (Nat.zero_le _) ⟨fun h => absurd h (by omega)⟩ (fun i hi => absurd hi (by simp))
theorem isNd_int (w : World) (z : Int) (hz : (Lit.int .i64 z).wf = true) : IsNd w [.int .i64 3, .int .i64 z, .string ByteArray.empty, .slice none 0 0, .slice none 0 0] (.mk 3 z ByteArray.empty [] []) :=
  .mk (fun _ => []) (by decide) hz (by decide) ⟨rfl, Nat.zero_le _, by simp, ⟨fun h => absurd h (by omega)⟩⟩ rfl (Nat.zero_le _) ⟨fun h => absurd h (by omega)⟩ (fun i hi => absurd hi (by simp))
/-- Two nodes in a row. -/
theorem nds2 {w : World} {ca cb : List Value} {A B : Nd} (ha : IsNd w ca A) (hb : IsNd w cb B) {b : Nat} {T : TypeId} (hg : w.heap[b]? = some (.cells (ca ++ cb).toArray T (0, 0))) : IsNds w (some ⟨b, 0, none⟩) 2 (fun i => if i = 0 then ca else cb) [A, B] := by
  have la := isNd_len2 ha
  have lb := isNd_len2 hb
  refine ⟨rfl, by decide, ⟨fun _ => ⟨b, 0, rfl, (Array.getElem?_eq_some_iff.1 hg).1, fun i hi => ?_⟩⟩, fun i hi => ?_⟩
  · have hi2 : i = 0 ∨ i = 1 := by omega
    rcases hi2 with rfl | rfl
    · refine ⟨la, fun j hj => ?_⟩
      rw [cell_of_row w b _ _ T (0, 0) hg]
      simp [List.getElem?_append_left (show j < ca.length from by omega)]
    · refine ⟨lb, fun j hj => ?_⟩
      rw [cell_of_row w b _ _ T (0, 0) hg]
      simp only [List.getElem?_toArray]
      rw [List.getElem?_append_right (by omega)]
      simp [la]
  · match i, hi with
    | 0, _ => exact ha
    | 1, _ => exact hb
theorem bs_nd2 (a0 a1 a2 a3 a4 b0 b1 b2 b3 b4 : Value) (W : World) : (Instr.buildSlice 23 2 #[(0, .agg #[a0, a1, a2, a3, a4]), (1, .agg #[b0, b1, b2, b3, b4])]).run Try.prog W = .ok (.slice (some ⟨W.heap.size, 0, none⟩) 2 2) (W.alloc (.cells #[a0, a1, a2, a3, a4, b0, b1, b2, b3, b4] 25 (0, 0))) := by go_simp
section
variable {P : Program} {w : World} {o : Oper} {A : Act} {ops : Array Oper} {md : Region.Mode} {Q : Exit → Act → World → Prop} {S : World → Prop} {st n fuel : Nat} {l : Array Bool}
/-- A call whose answer is only known to be there. -/
theorem hop_call {d : Tmp} {f : FuncId} {args : Array Value} {R : Ending → World → Prop} (hn : ops[n]? = some o) (hdd : o.dst = some d) (hgd : o.guard = none) (h : ∀ W, (execOp A.eval o).run P W = .ok (.enter f args) W) (hc : Calls P f args w R) (L : Array Bool) (hL : l.setIfInBounds n true = L) (hk : ∀ e w', R e w' → ∃ v, e = .returned v ∧ (L.getD st true = false → S w') ∧ Hold P md ops Q S st fuel L (A.put (some d) v) w') :
    Go.wpOp P ops Q n (fun a' w' => ((l.setIfInBounds n true).getD st true = false → S w') ∧ Hold P md ops Q S st fuel (l.setIfInBounds n true) a' w') A w := by
  unfold Go.wpOp
  simp only [hn]
  rw [if_pos (by simp [Region.wanted, hgd])]
  refine .inl ?_
  unfold Oper.wp
  rw [h, hL]
  refine hc.mono fun e w' he => ?_
  obtain ⟨v, rfl, h1, h2⟩ := hk e w' he
  rw [← hdd] at h2
  exact ⟨h1, h2⟩
end
theorem Try.zero_str : True := trivial
def strA : ByteArray := ⟨#[97]⟩
def strB : ByteArray := ⟨#[98]⟩
def strXY : ByteArray := ⟨#[120, 121]⟩
def exN : Nd := .mk 6 0 ByteArray.empty [strA] [.mk 4 0 strXY [] []]
theorem ex_1 : exN.checkE [⟨strA, 4, false, 1, false⟩] = (strA, 4) := by decide +kernel
theorem ex_2 : exN.checkE [⟨strB, 0, true, 0, false⟩] = (strB, 15) := by decide +kernel
theorem strs1 {w : World} {b : Nat} {s : ByteArray} {T : TypeId} (hs : s.size ≤ maxLen) (hg : w.heap[b]? = some (.cells #[.string s] T (0, 0))) : IsStrs w (some ⟨b, 0, none⟩) 1 [s] :=
  ⟨rfl, by decide, fun t ht => by rw [List.mem_singleton.1 ht]; exact hs, ⟨fun _ => ⟨b, 0, rfl, (Array.getElem?_eq_some_iff.1 hg).1, fun i hi => ⟨rfl, fun j hj => by
    obtain rfl : i = 0 := by omega
    obtain rfl : j = 0 := by omega
    rw [cell_of_row w b _ _ T (0, 0) hg]
    rfl⟩⟩⟩⟩
set_option maxRecDepth 100000 in
set_option maxHeartbeats 4000000 in
theorem lives29_any (w : World) : Calls Try.prog 10 #[] w fun e w' => e = .returned (.bool true) ∧ Below w.heap.size w w' := by
  have HMIX := Lib.hid (show Try.prog.follows .mixedOrders = true by kernel_rfl)
  have hM0 := Mem.start w
  go_enter Try.func10, Try.ntmps10
  go_upto_region 1 with fail
  refine wp_region_lit ?_
  refine wl_call hM0 (args := #[.string strA]) (v := .agg #[.int .i64 4, .int .i64 0, .string strA, .slice none 0 0, .slice none 0 0]) (fun W => run_call_fn W (enters_of Try.func36 (by kernel_rfl) rfl) rfl (by simp [Act.eval]; try rfl)) (text_any w strA) rfl fun W1 hM1 => ?_
  simp only [nm0, nm1, nm2, nm3]
  refine wl_call hM1 (args := #[.string strXY]) (v := .agg #[.int .i64 4, .int .i64 0, .string strXY, .slice none 0 0, .slice none 0 0]) (fun W => run_call_fn W (enters_of Try.func36 (by kernel_rfl) rfl) rfl (by simp [Act.eval]; try rfl)) (text_any W1 strXY) rfl fun W2 hM2 => ?_
  simp only [nm0, nm1, nm2, nm3]
  refine wl_new hM2 (f := fun b => .slice (some ⟨b, 0, none⟩) 2 2) (fun W => run_slice_of rfl (by simp [Act.eval]) (bs_nd2 (.int .i64 4) (.int .i64 0) (.string strA) (.slice none 0 0) (.slice none 0 0) (.int .i64 4) (.int .i64 0) (.string strXY) (.slice none 0 0) (.slice none 0 0) W)) rfl fun g1 W3 hM3 => ?_
  simp only [nm0, nm1, nm2, nm3]
  have hnds : IsNds W3 (some ⟨g1, 0, none⟩) 2 (fun i => if i = 0 then [.int .i64 4, .int .i64 0, .string strA, .slice none 0 0, .slice none 0 0] else [.int .i64 4, .int .i64 0, .string strXY, .slice none 0 0, .slice none 0 0]) [.mk 4 0 strA [] [], .mk 4 0 strXY [] []] := nds2 (isNd_text W3 strA (by decide)) (isNd_text W3 strXY (by decide)) (hM3.get 0 rfl)
  refine wl_callX (args := #[.slice (some ⟨g1, 0, none⟩) 2 2]) (fun W => run_call_fn W (enters_of Try.func35 (by kernel_rfl) rfl) rfl (by simp [Act.eval])) (map_any W3 _ 2 2 _ _ hnds (by decide) (by decide)) rfl ?_
  rintro e W4 ⟨cs, hN, rfl, hb4⟩
  refine ⟨_, rfl, ?_⟩
  simp only [nm0, nm1, nm2, nm3]
  have hbw := Lib.hid (hM3.below.trans (hb4.mono hM3.below.size))
  have hM4 := Mem.start W4
  have hN2 : IsNd W4 cs exN := hN
  have h5 := isNd_len hN
  have h1 := isNd_one hN
  obtain ⟨kx, ekx⟩ : ∃ z, z = cs.toArray := ⟨_, rfl⟩
  rw [← ekx] at h5 h1 ⊢
  have EKX := Lib.hid ekx
  clear ekx hnds hN hM1 hM2 hM3 hb4
  refine wl_new hM4 (f := fun b => .pointer (some ⟨b, 0, none⟩)) (fun W => run_alloc_of rfl (al_Nd W)) rfl fun b1 W5 hM5 => ?_
  simp only [nm0, nm1, nm2, nm3]
  refine wl_set hM5 0 (cs := kx) rfl rfl rfl rfl (by rw [h5]; exact rowNd) (by rw [h5]; rfl) h1 rfl rfl fun W6 hM6 => ?_
  simp only [nm2, nm3] at hM6
  refine wpList_nil ?_
  go_upto_region 2 with fail
  have hMd := hM6.drew
  refine wp_region_noPanic (hold_begin (S := fun W => W.heap[b1]? = some (.cells kx 25 (0, 0))) (st := 4) HMIX.out ?_)
  change Hold _ _ _ _ _ _ 10 _ _ _
  generalize W6.drew = V0 at hMd ⊢
  have hV0 := hMd
  clear hMd
  refine hl_take 0 11 [4] #[true, false, false, false, false, false, false, false, false, false] (by kernel_rfl) (v := .agg kx) rfl rfl (by kernel_rfl) (by kernel_rfl) (by kernel_rfl) (by kernel_rfl) (by kernel_rfl) (by kernel_rfl) rfl (fun W hW => run_load_row rfl rfl hW (by rw [h5]; exact rowNd)) (hV0.get 0 rfl) ?_
  simp only [nm0, nm1, nm2, nm3]
  refine hold_next (rs := [1]) (by kernel_rfl) (by simp) ?_
  intro i hi
  simp only [List.mem_cons, List.not_mem_nil, or_false] at hi
  subst hi
  refine hop_new (d := 12) (f := fun b => .slice (some ⟨b, 0, none⟩) 1 1) (ob := .cells #[.string strA] 9 (0, 0)) rfl rfl rfl hV0 (fun W => run_slice_of rfl (by simp [Act.eval]; rfl) (bs_str strA W)) #[true, true, false, false, false, false, false, false, false, false] (by kernel_rfl) fun g2 V1 hV1 => ⟨hV1.get 1 rfl, ?_⟩
  simp only [nm0, nm1, nm2, nm3]
  refine hold_next (rs := [2]) (by kernel_rfl) (by simp) ?_
  intro i hi
  simp only [List.mem_cons, List.not_mem_nil, or_false] at hi
  subst hi
  refine hop_call (d := 13) (args := #[.int .i64 4, .slice (some ⟨g2, 0, none⟩) 1 1]) rfl rfl rfl (fun W => run_call_fn W (enters_of Try.func16 (by kernel_rfl) rfl) rfl (by simp [Act.eval])) (may_any V1 4 _ 1 1 [strA] (strs1 (by decide) (hV1.get 0 rfl)) (by decide)) #[true, true, true, false, false, false, false, false, false, false] (by kernel_rfl) ?_
  rintro e V2 ⟨r1, rfl, hr1, hb⟩
  have hV2 := hV1.calls hb
  refine ⟨_, rfl, fun _ => hV2.get 1 rfl, ?_⟩
  simp only [nm0, nm1, nm2, nm3]
  refine hold_next (rs := [3]) (by kernel_rfl) (by simp) ?_
  intro i hi
  simp only [List.mem_cons, List.not_mem_nil, or_false] at hi
  subst hi
  refine hop_call (d := 14) (args := #[.int .i64 1, r1]) rfl rfl rfl (fun W => run_call_fn W (enters_of Try.func17 (by kernel_rfl) rfl) rfl (by simp [Act.eval])) (most_any V2 1 r1 _ hr1 (by decide)) #[true, true, true, true, false, false, false, false, false, false] (by kernel_rfl) ?_
  rintro e V3 ⟨r2, rfl, hr2, hb3⟩
  have hV3 := hV2.calls hb3
  refine ⟨_, rfl, fun _ => hV3.get 1 rfl, ?_⟩
  simp only [nm0, nm1, nm2, nm3]
  have hnV : IsNd V3 cs exN := hN2.keep hV3.below
  have hck := check_any V3 cs exN hnV r2 [⟨strA, 4, false, 1, false⟩] hr2 (by decide)
  rw [ex_1, ← EKX.out] at hck
  refine hold_next (rs := [4]) (by kernel_rfl) (by simp) ?_
  intro i hi
  simp only [List.mem_cons, List.not_mem_nil, or_false] at hi
  subst hi
  refine hop_call (d := 15) (args := #[.agg kx, r2]) rfl rfl rfl (fun W => run_call_fn W (enters_of Try.func11 (by kernel_rfl) rfl) rfl (by simp [Act.eval])) (hck) #[true, true, true, true, true, false, false, false, false, false] (by kernel_rfl) ?_
  rintro e V4 ⟨rfl, hb4⟩
  have hV4 := hV3.calls hb4
  refine ⟨_, rfl, fun _ => hV4.get 1 rfl, ?_⟩
  simp only [nm0, nm1, nm2, nm3]
  refine hl_pureS 5 10 #[true, true, true, true, true, true, false, false, false, false] (by kernel_rfl) (v := .tuple #[.string strA, .int .i64 4]) rfl rfl (by kernel_rfl) rfl (by kernel_rfl) (by kernel_rfl) rfl (fun W => rfl) (by kernel_rfl) ?_
  simp only [nm0, nm1, nm2, nm3]
  refine hl_pureS 6 16 #[true, true, true, true, true, true, true, false, false, false] (by kernel_rfl) (v := .string strA) rfl rfl (by kernel_rfl) rfl (by kernel_rfl) (by kernel_rfl) rfl (fun W => rfl) (by kernel_rfl) ?_
  simp only [nm0, nm1, nm2, nm3]
  refine hl_pureS 7 17 #[true, true, true, true, true, true, true, true, false, false] (by kernel_rfl) (v := .int .i64 4) rfl rfl (by kernel_rfl) rfl (by kernel_rfl) (by kernel_rfl) rfl (fun W => rfl) (by kernel_rfl) ?_
  simp only [nm0, nm1, nm2, nm3]
  refine hl_pureS 8 2 #[true, true, true, true, true, true, true, true, true, false] (by kernel_rfl) (v := .string strA) rfl rfl (by kernel_rfl) rfl (by kernel_rfl) (by kernel_rfl) rfl (fun W => rfl) (by kernel_rfl) ?_
  simp only [nm0, nm1, nm2, nm3]
  refine hl_pureS 9 3 #[true, true, true, true, true, true, true, true, true, true] (by kernel_rfl) (v := .int .i64 4) rfl rfl (by kernel_rfl) rfl (by kernel_rfl) (by kernel_rfl) rfl (fun W => rfl) (by kernel_rfl) ?_
  simp only [nm0, nm1, nm2, nm3]
  refine hold_done (by kernel_rfl) ?_ _
  refine NoPanic.normal ?_
  clear hr1 hr2 hck hb hb3 hb4 hnV hV1 hV2 hV3 hM4 hM5
  go_upto_region 3 with fail
  have hMd := hV4.drew
  refine wp_region_noPanic (hold_begin (S := fun W => W.heap[b1]? = some (.cells kx 25 (0, 0))) (st := 3) HMIX.out ?_)
  change Hold _ _ _ _ _ _ 9 _ _ _
  generalize V4.drew = U0 at hMd ⊢
  have hU0 := hMd
  clear hMd
  refine hl_take 0 19 [3] #[true, false, false, false, false, false, false, false, false] (by kernel_rfl) (v := .agg kx) rfl rfl (by kernel_rfl) (by kernel_rfl) (by kernel_rfl) (by kernel_rfl) (by kernel_rfl) (by kernel_rfl) rfl (fun W hW => run_load_row rfl rfl hW (by rw [h5]; exact rowNd)) (hU0.get 1 rfl) ?_
  simp only [nm0, nm1, nm2, nm3]
  refine hold_next (rs := [1]) (by kernel_rfl) (by simp) ?_
  intro i hi
  simp only [List.mem_cons, List.not_mem_nil, or_false] at hi
  subst hi
  refine hop_new (d := 20) (f := fun b => .slice (some ⟨b, 0, none⟩) 1 1) (ob := .cells #[.string strB] 9 (0, 0)) rfl rfl rfl hU0 (fun W => run_slice_of rfl (by simp [Act.eval]; rfl) (bs_str strB W)) #[true, true, false, false, false, false, false, false, false] (by kernel_rfl) fun g3 U1 hU1 => ⟨hU1.get 2 rfl, ?_⟩
  simp only [nm0, nm1, nm2, nm3]
  refine hold_next (rs := [2]) (by kernel_rfl) (by simp) ?_
  intro i hi
  simp only [List.mem_cons, List.not_mem_nil, or_false] at hi
  subst hi
  refine hop_call (d := 21) (args := #[.int .i64 0, .slice (some ⟨g3, 0, none⟩) 1 1]) rfl rfl rfl (fun W => run_call_fn W (enters_of Try.func15 (by kernel_rfl) rfl) rfl (by simp [Act.eval])) (must_any U1 0 _ 1 1 [strB] (strs1 (by decide) (hU1.get 0 rfl)) (by decide)) #[true, true, true, false, false, false, false, false, false] (by kernel_rfl) ?_
  rintro e U2 ⟨r1, rfl, hr1, hb⟩
  have hU2 := hU1.calls hb
  refine ⟨_, rfl, fun _ => hU2.get 2 rfl, ?_⟩
  simp only [nm0, nm1, nm2, nm3]
  have hnV : IsNd U2 cs exN := hN2.keep hU2.below
  have hck := check_any U2 cs exN hnV r1 [⟨strB, 0, true, 0, false⟩] hr1 (by decide)
  rw [ex_2, ← EKX.out] at hck
  refine hold_next (rs := [3]) (by kernel_rfl) (by simp) ?_
  intro i hi
  simp only [List.mem_cons, List.not_mem_nil, or_false] at hi
  subst hi
  refine hop_call (d := 22) (args := #[.agg kx, r1]) rfl rfl rfl (fun W => run_call_fn W (enters_of Try.func11 (by kernel_rfl) rfl) rfl (by simp [Act.eval])) (hck) #[true, true, true, true, false, false, false, false, false] (by kernel_rfl) ?_
  rintro e U3 ⟨rfl, hb3⟩
  have hU3 := hU2.calls hb3
  refine ⟨_, rfl, fun _ => hU3.get 2 rfl, ?_⟩
  simp only [nm0, nm1, nm2, nm3]
  refine hl_pureS 4 18 #[true, true, true, true, true, false, false, false, false] (by kernel_rfl) (v := .tuple #[.string strB, .int .i64 15]) rfl rfl (by kernel_rfl) rfl (by kernel_rfl) (by kernel_rfl) rfl (fun W => rfl) (by kernel_rfl) ?_
  simp only [nm0, nm1, nm2, nm3]
  refine hl_pureS 5 23 #[true, true, true, true, true, true, false, false, false] (by kernel_rfl) (v := .string strB) rfl rfl (by kernel_rfl) rfl (by kernel_rfl) (by kernel_rfl) rfl (fun W => rfl) (by kernel_rfl) ?_
  simp only [nm0, nm1, nm2, nm3]
  refine hl_pureS 6 24 #[true, true, true, true, true, true, true, false, false] (by kernel_rfl) (v := .int .i64 15) rfl rfl (by kernel_rfl) rfl (by kernel_rfl) (by kernel_rfl) rfl (fun W => rfl) (by kernel_rfl) ?_
  simp only [nm0, nm1, nm2, nm3]
  refine hl_pureS 7 4 #[true, true, true, true, true, true, true, true, false] (by kernel_rfl) (v := .string strB) rfl rfl (by kernel_rfl) rfl (by kernel_rfl) (by kernel_rfl) rfl (fun W => rfl) (by kernel_rfl) ?_
  simp only [nm0, nm1, nm2, nm3]
  refine hl_pureS 8 5 #[true, true, true, true, true, true, true, true, true] (by kernel_rfl) (v := .int .i64 15) rfl rfl (by kernel_rfl) rfl (by kernel_rfl) (by kernel_rfl) rfl (fun W => rfl) (by kernel_rfl) ?_
  simp only [nm0, nm1, nm2, nm3]
  refine hold_done (by kernel_rfl) ?_ _
  refine NoPanic.normal ?_
  have HB := Lib.hid (hbw.out.trans (hU3.below.mono hbw.out.size))
  clear hr1 hck hb hb3 hnV hU1 hU2 hU3 hV4 hN2
  simp only [strA, strB]
  go_wp2_with fail
  exact bodyPost_ret (results_slot rfl rfl) rfl ⟨rfl, HB.out⟩
end Go.Proofs.Ytbheiglbejokmaa
