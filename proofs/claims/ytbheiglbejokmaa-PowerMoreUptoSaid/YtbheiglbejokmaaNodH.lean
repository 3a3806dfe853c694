/- Few (layer 7's statements): that it answers. -/
import Derived.Test.YtbheiglbejokmaaNodG
namespace Go.Proofs.Ytbheiglbejokmaa
set_option maxRecDepth 20000
set_option linter.unusedSimpArgs false
set_option linter.unusedVariables false
open Go.RowKit Go.Sort Go.Lib
attribute [local go_sem] Oper.semAt_some
set_option maxRecDepth 100000 in
set_option maxHeartbeats 4000000 in
theorem few_any (w : World) (cs : List Value) (N : Nd) (h : IsNd w cs N) (hbig : N.all.length ≤ 1048576) (most : Int) :
    Calls Try.prog 9 #[.agg cs.toArray, .int .i64 most] w fun e w' => ∃ b, e = .returned (.bool b) ∧ Below w.heap.size w w' := by
  have KD := Lib.hid (fun W (hb : Below w.heap.size w W) => depth_any _ W cs N rfl (h.keep hb))
  have KA := Lib.hid (fun W (hb : Below w.heap.size w W) => all_any w _ W cs N rfl hbig h hb)
  have hcs := isNd_len h
  obtain ⟨ca, eca⟩ : ∃ z, z = cs.toArray := ⟨_, rfl⟩
  rw [← eca] at hcs KD KA ⊢
  clear eca h
  obtain ⟨NA, eNA⟩ : ∃ z, z = N.all := ⟨_, rfl⟩
  rw [← eNA] at KA hbig
  clear eNA
  go_enter Try.func9, Try.ntmps9
  go_upto_region 0 with fail
  have hM0 := Mem.start w
  refine wp_region_lit ?_
  refine wl_new hM0 (f := fun b => .pointer (some ⟨b, 0, none⟩)) (ob := .cells ca 25 (0, 0)) (fun W => run_box_of rfl rfl (bx_Nd ca hcs W)) rfl fun b1 W1 hM1 => ?_
  simp only [nm0, nm1, nm2, nm3]
  refine wl_pure (v := .bool false) (fun W => rfl) rfl ?_
  simp only [nm0, nm1, nm2, nm3]
  refine wpList_nil ?_
  go_upto_region 1 with fail
  refine wp_region_lit ?_
  refine wl_row hM1 0 (v := .agg ca) rfl rfl rfl rfl (by rw [hcs]; exact rowNd) rfl ?_
  simp only [nm0, nm1, nm2, nm3]
  refine wl_callX (args := #[.agg ca]) (fun W => run_call_fn W (enters_of Try.func38 (by kernel_rfl) rfl) rfl (by simp [Act.eval])) (KD.out W1 hM1.below) rfl ?_
  rintro e w2 ⟨z, rfl, hb2⟩
  refine ⟨_, rfl, ?_⟩
  simp only [nm0, nm1, nm2, nm3]
  have hM2 := hM1.calls hb2
  obtain ⟨c, ec⟩ : ∃ c, c = decide (z > 80) := ⟨_, rfl⟩
  refine wl_pure (v := .bool c) (fun W => by rw [ec]; rfl) rfl ?_
  simp only [nm0, nm1, nm2, nm3]
  refine wpList_nil ?_
  clear ec hM1 hM0 hb2
  cases c with
  | true =>
    have HB := Lib.hid hM2.below
    clear hM2
    go_wp2_with fail
    exact bodyPost_ret (results_slot rfl rfl) rfl ⟨_, rfl, HB.out⟩
  | false =>
    go_upto_region 3 with fail
    refine wp_region_lit ?_
    refine wl_row hM2 0 (v := .agg ca) rfl rfl rfl rfl (by rw [hcs]; exact rowNd) rfl ?_
    simp only [nm0, nm1, nm2, nm3]
    refine wl_callX (args := #[.agg ca]) (fun W => run_call_fn W (enters_of Try.func39 (by kernel_rfl) rfl) rfl (by simp [Act.eval])) (KA.out w2 hM2.below) rfl ?_
    rintro e w3 ⟨v, rfl, ⟨g, cap, Ks, rfl, hC, hR⟩, hb3⟩
    refine ⟨_, rfl, ?_⟩
    simp only [nm0, nm1, nm2, nm3]
    have hM3 := hM2.calls hb3
    refine wl_pure (v := .slice (some ⟨g, 0, none⟩) NA.length cap) (fun W => rfl) rfl ?_
    simp only [nm0, nm1, nm2, nm3]
    refine wpList_nil ?_
    obtain ⟨len, elen⟩ : ∃ z, z = NA.length := ⟨_, rfl⟩
    rw [← elen] at hR hbig ⊢
    have ELEN := Lib.hid elen
    have HC := Lib.hid hC
    have HR := Lib.hid hR
    have HM3 := Lib.hid hM3.below
    clear hC hR hM2 hM3 hb3 KA KD elen
    go_wp2_with fail
    go_loopw [6, 18] (fun v6 v18 wr => ∃ (z : Int) (k : Nat), v6 = .int .i64 z ∧ v18 = .int .i64 (k : Int) ∧ k ≤ len ∧ Below w3.heap.size w3 wr) (fun _ v18 _ => len - (Go.RowKit.intOf v18).toNat)
    case atStart => exact ⟨0, 0, rfl, rfl, Nat.zero_le _, Below.refl _ _⟩
    case round =>
      obtain ⟨z, k, rfl, rfl, hk, hb⟩ := hrel
      have HB := Lib.hid hb
      by_cases hlt : k < len
      · have b1b : decide ((k : Int) < (len : Int)) = true := decide_eq_true (by omega)
        have hN := HC.out.nd k (by rw [← ELEN.out]; exact hlt)
        have hc := Lib.hid ((HR.out.below hb).cells hlt)
        obtain ⟨kc, ekc⟩ : ∃ c, c = Ks.getD k [] := ⟨_, rfl⟩
        rw [← ekc] at hN hc
        obtain ⟨Ni, eNi⟩ : ∃ c, c = NA[k]'(by rw [← ELEN.out]; exact hlt) := ⟨_, rfl⟩
        rw [← eNi] at hN
        clear ekc eNi hb
        cases hN with
        | @mk kind nn s ks ls ak lk ck al ll cl kid hkind hn2 hs hk2 hl hlm hrow hkids =>
          have HS := Lib.hid (fun h0 => str_at (show IsStrs w ak lk ks from hk2) h0)
          have hlk := hk2.2.1
          clear hrow hkids hkind hn2 hl hlm hk2
          have hMr := Mem.start wr
          go_upto_region 7 with fail
          refine wp_region_lit ?_
          refine wl_pure (v := .pointer (some ⟨g, k * 5, none⟩)) (fun W => (run_index_of rfl rfl rfl (by have h := ix_L g 0 len cap k hlt W; rw [Nat.zero_add] at h; exact h))) rfl ?_
          simp only [nm0, nm1, nm2, nm3]
          refine wl_val (v := .agg #[.int .i64 kind, .int .i64 nn, .string s, .slice ak lk ck, .slice al ll cl]) (run_load_cs rfl rfl (fun j v hv => by have h := hc.out j v hv; rw [Nat.zero_add] at h; exact h) rowNd) rfl ?_
          simp only [nm0, nm1, nm2, nm3]
          refine wl_new hMr (f := fun b => .pointer (some ⟨b, 0, none⟩)) (fun W => run_alloc_of rfl (al_Nd W)) rfl fun b8 W4 hM4 => ?_
          simp only [nm0, nm1, nm2, nm3]
          refine wl_set hM4 0 (cs := #[.int .i64 kind, .int .i64 nn, .string s, .slice ak lk ck, .slice al ll cl]) rfl rfl rfl rfl rowNd rfl (by simp [Value.oneCell']) rfl rfl fun W5 hM5 => ?_
          simp only [nm2, nm3] at hM5
          refine wpList_nil ?_
          have g2 := cell_of_row W5 b8 2 _ _ _ (hM5.get 0 rfl)
          have g3 := cell_of_row W5 b8 3 _ _ _ (hM5.get 0 rfl)
          simp only [List.getElem?_toArray, List.getElem?_cons_zero, List.getElem?_cons_succ] at g2 g3
          have HB5 := Lib.hid (HB.out.trans (hM5.below.mono HB.out.size))
          clear hMr hM4 hM5 hc
          go_wp2_with fail
          go_loopw [6, 30] (fun v6 v30 wq => ∃ (z : Int) (j : Nat), v6 = .int .i64 z ∧ v30 = .int .i64 (j : Int) ∧ j ≤ lk ∧ Below w3.heap.size w3 wq) (fun _ v30 _ => lk - (Go.RowKit.intOf v30).toNat)
          case atStart => exact ⟨_, 0, rfl, rfl, Nat.zero_le _, HB5.out⟩
          case round =>
            obtain ⟨z2, j, rfl, rfl, hj, hb⟩ := hrel
            clear g2 g3
            have HBq := Lib.hid hb
            by_cases hj2 : j < lk
            · have b2b : decide ((j : Int) < (lk : Int)) = true := decide_eq_true (by omega)
              obtain ⟨bk, ok, rfl, hbk, hck⟩ := HS.out (by omega)
              have cK : wr.cell? ⟨bk, ok + j, none⟩ = some (.string (ks.getD j ByteArray.empty)) := ((HM3.out.trans (hb.mono HM3.out.size)).cell (p := ⟨bk, ok + j, none⟩) hbk).trans (hck j hj2)
              obtain ⟨x, ex⟩ : ∃ x, x = ks.getD j ByteArray.empty := ⟨_, rfl⟩
              rw [← ex] at cK
              have hw1 : wrap64 ((j : Int) + 1) = ((j + 1 : Nat) : Int) := wrap_succ hj2 hlk
              have HW := Lib.hid hw1
              clear hw1 ex hck hb
              clear HB HB5
              go_wp2_with fail
              exact ⟨⟨_, j + 1, rfl, congrArg (Value.int .i64) HW.out, hj2, HBq.out⟩, by rw [HW.out]; show lk - ((j + 1 : Nat) : Int).toNat < lk - (j : Int).toNat; omega⟩
            · have b2b : decide ((j : Int) < (lk : Int)) = false := decide_eq_false (by omega)
              clear hb
              have hw1 : wrap64 ((k : Int) + 1) = ((k + 1 : Nat) : Int) := wrap_succ hlt (by unfold maxLen; omega)
              have HW := Lib.hid hw1
              clear hw1
              go_wp2_with fail
              exact ⟨⟨z2, k + 1, rfl, rfl, hlt, HBq.out⟩, by show len - ((k : Int) + 1).toNat < len - (k : Int).toNat; omega⟩
      · have b1b : decide ((k : Int) < (len : Int)) = false := decide_eq_false (by omega)
        have HBF := Lib.hid (HM3.out.trans (hb.mono HM3.out.size))
        clear hb
        obtain ⟨q1, eq1⟩ : ∃ c, c = decide ((len : Int) ≤ most) := ⟨_, rfl⟩
        obtain ⟨q2, eq2⟩ : ∃ c, c = decide (z ≤ 3000) := ⟨_, rfl⟩
        have e1 := eq1.symm
        have e2 := eq2.symm
        clear eq1 eq2
        cases q1 with
        | false =>
          go_wp2_with fail
          exact bodyPost_ret (results_slot rfl rfl) rfl ⟨_, rfl, HBF.out⟩
        | true =>
          go_wp2_with fail
          exact bodyPost_ret (results_slot rfl rfl) rfl ⟨_, rfl, HBF.out⟩
end Go.Proofs.Ytbheiglbejokmaa
