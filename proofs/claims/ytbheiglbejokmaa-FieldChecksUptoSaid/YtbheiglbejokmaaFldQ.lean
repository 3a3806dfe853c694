/- FieldChecks (layer 29): its walk. -/
import Derived.Test.YtbheiglbejokmaaFldP
import Derived.Test.YtbheiglbejokmaaNodH
namespace Go.Proofs.Ytbheiglbejokmaa
set_option maxRecDepth 20000
set_option linter.unusedSimpArgs false
set_option linter.unusedVariables false
open Go.RowKit Go.Sort Go.Lib
attribute [local go_sem] Oper.semAt_some
theorem run_not_b {P : Program} {o : Oper} {A : Act} {t : TypeId} {x : Operand} {b : Bool} (W : World) (ho : o.op = .unOp .not t x) (hx : A.eval x = .bool b) {c : Bool} (hc : (!b) = c) : (execOp A.eval o).run P W = .ok (.value (.bool c)) W := by
  subst hc
  unfold execOp
  simp only [ho, hx]
  rfl
set_option maxRecDepth 100000 in
set_option maxHeartbeats 4000000 in
theorem fieldChecks_walk (w : World) (cs : List Value) (N : Nd) (h : IsNd w cs N) (hbig : N.all.length ≤ 1048576) (a : Option Addr) (len cap : Nat) (L : List Rl) (hL : IsRl w (.slice a len cap) L) :
    Calls Try.prog 3 #[.agg cs.toArray, .slice a len cap] w fun e w' => e = .returned (.bool true) ∧ Below w.heap.size w w' := by
  have hll : L.length = len ∧ RowAt w a len 5 (fun i => (L.getD i rl0).cs) := by
    obtain ⟨a', l', c', e, h1, _, h3⟩ := hL
    cases e
    exact ⟨h1, h3⟩
  have HLN := Lib.hid hll.1
  have HROW := Lib.hid hll.2
  have KF := Lib.hid (fun W (hb : Below w.heap.size w W) => few_any W cs N (h.keep hb) hbig 200)
  have KL := Lib.hid lives29_any
  have KC := Lib.hid (fun W (hb : Below w.heap.size w W) (hl : L.length ≤ 1000) => check_any W cs N (h.keep hb) _ L (hL.keep hb) hl)
  have KR := Lib.hid (fun W (hb : Below w.heap.size w W) (hl : L.length ≤ 1000) => rcheck_any W cs N (h.keep hb) _ L (hL.keep hb) hl)
  have KT := Lib.hid (fun W (hb : Below w.heap.size w W) name => ftext_any W cs N (h.keep hb) name)
  have KU := Lib.hid (fun W (hb : Below w.heap.size w W) name => rtext_any W cs N (h.keep hb) name)
  have hcs := isNd_len h
  obtain ⟨ca, eca⟩ : ∃ z, z = cs.toArray := ⟨_, rfl⟩
  rw [← eca] at KF KC KR KT KU hcs ⊢
  obtain ⟨s1, es1⟩ : ∃ z, z = (N.checkE L).1 := ⟨_, rfl⟩
  obtain ⟨s2, es2⟩ : ∃ z, z = (N.checkE L).2 := ⟨_, rfl⟩
  rw [← es1, ← es2] at KC KR
  clear es1 es2 eca h hL hll hbig
  go_enter Try.func3, Try.ntmps3
  go_upto_region 0 with fail
  have hM0 := Mem.start w
  refine wp_region_lit ?_
  refine wl_new hM0 (f := fun b => .pointer (some ⟨b, 0, none⟩)) (ob := .cells ca 25 (0, 0)) (fun W => run_box_of rfl rfl (bx_Nd ca hcs W)) rfl fun b2 W1 hM1 => ?_
  simp only [nm0, nm1, nm2, nm3]
  refine wl_pure (v := .bool false) (fun W => rfl) rfl ?_
  simp only [nm0, nm1, nm2, nm3]
  refine wpList_nil ?_
  go_upto_region 1 with fail
  refine wp_region_lit ?_
  refine wl_row hM1 0 (v := .agg ca) rfl rfl rfl rfl (by rw [hcs]; exact rowNd) rfl ?_
  simp only [nm0, nm1, nm2, nm3]
  refine wl_callX (args := #[.agg ca, .int .i64 200]) (fun W => run_call_fn W (enters_of Try.func9 (by kernel_rfl) rfl) rfl (by simp [Act.eval])) (KF.out W1 hM1.below) rfl ?_
  rintro e w2 ⟨fw, rfl, hb2⟩
  refine ⟨_, rfl, ?_⟩
  simp only [nm0, nm1, nm2, nm3]
  have hM2 := hM1.calls hb2
  clear hb2
  cases fw with
  | false =>
    refine wl_pure (v := .bool true) (fun W => run_not_b W rfl rfl rfl) rfl ?_
    simp only [nm0, nm1, nm2, nm3]
    refine wl_pure (v := .bool true) (fun W => rfl) rfl ?_
    simp only [nm0, nm1, nm2, nm3]
    refine wl_skip rfl ?_
    simp only [nm0, nm1, nm2, nm3]
    refine wl_skip rfl ?_
    simp only [nm0, nm1, nm2, nm3]
    refine wl_skip rfl ?_
    simp only [nm0, nm1, nm2, nm3]
    refine wl_pure (v := .bool true) (fun W => rfl) rfl ?_
    simp only [nm0, nm1, nm2, nm3]
    refine wpList_nil ?_
    have HBL := Lib.hid hM2.below
    clear hM0 hM1 hM2
    go_wp2_with fail
    refine (KL.out w2).mono ?_
    rintro e W9 ⟨rfl, hb9⟩
    have HB9 := Lib.hid (HBL.out.trans (hb9.mono HBL.out.size))
    clear hb9
    go_wp2_with fail
    exact bodyPost_ret (results_slot rfl rfl) rfl ⟨rfl, HB9.out⟩
  | true =>
    refine wl_pure (v := .bool false) (fun W => run_not_b W rfl rfl rfl) rfl ?_
    simp only [nm0, nm1, nm2, nm3]
    refine wl_pure (v := .bool false) (fun W => rfl) rfl ?_
    simp only [nm0, nm1, nm2, nm3]
    refine wl_pure (v := .slice a len cap) (fun W => rfl) rfl ?_
    simp only [nm0, nm1, nm2, nm3]
    refine wl_pure (v := .int .i64 (len : Int)) (fun W => by go_simp) rfl ?_
    simp only [nm0, nm1, nm2, nm3]
    obtain ⟨c, ec⟩ : ∃ c, c = decide ((len : Int) > 30) := ⟨_, rfl⟩
    refine wl_pure (v := .bool c) (fun W => by rw [ec]; rfl) rfl ?_
    simp only [nm0, nm1, nm2, nm3]
    refine wl_pure (v := .bool c) (fun W => rfl) rfl ?_
    simp only [nm0, nm1, nm2, nm3]
    refine wpList_nil ?_
    cases c with
    | true =>
      clear ec
      have HBL := Lib.hid hM2.below
      clear hM0 hM1 hM2
      go_wp2_with fail
      refine (KL.out w2).mono ?_
      rintro e W9 ⟨rfl, hb9⟩
      have HB9 := Lib.hid (HBL.out.trans (hb9.mono HBL.out.size))
      clear hb9
      go_wp2_with fail
      exact bodyPost_ret (results_slot rfl rfl) rfl ⟨rfl, HB9.out⟩
    | false =>
      have hlen30 : len ≤ 30 := by have h := of_decide_eq_false ec.symm; omega
      have hlen3 : L.length ≤ 1000 := by rw [HLN.out]; omega
      clear ec
      go_upto_region 3 with fail
      refine wp_region_lit ?_
      refine wl_row hM2 0 (v := .agg ca) rfl rfl rfl rfl (by rw [hcs]; exact rowNd) rfl ?_
      simp only [nm0, nm1, nm2, nm3]
      refine wl_pure (v := .slice a len cap) (fun W => rfl) rfl ?_
      simp only [nm0, nm1, nm2, nm3]
      refine wl_call hM2 (args := #[.agg ca, .slice a len cap]) (v := .tuple #[.string s1, .int .i64 s2]) (fun W => run_call_fn W (enters_of Try.func11 (by kernel_rfl) rfl) rfl (by simp [Act.eval])) (KC.out w2 hM2.below hlen3) rfl fun W3 hM3 => ?_
      simp only [nm0, nm1, nm2, nm3]
      refine wl_pure (v := .tuple #[.string s1, .int .i64 s2]) (fun W => rfl) rfl ?_
      simp only [nm0, nm1, nm2, nm3]
      refine wl_pure (v := .string s1) (fun W => rfl) rfl ?_
      simp only [nm0, nm1, nm2, nm3]
      refine wl_pure (v := .int .i64 s2) (fun W => rfl) rfl ?_
      simp only [nm0, nm1, nm2, nm3]
      refine wl_pure (v := .string s1) (fun W => rfl) rfl ?_
      simp only [nm0, nm1, nm2, nm3]
      refine wl_pure (v := .int .i64 s2) (fun W => rfl) rfl ?_
      simp only [nm0, nm1, nm2, nm3]
      refine wpList_nil ?_
      go_upto_region 4 with fail
      refine wp_region_lit ?_
      refine wl_row hM3 0 (v := .agg ca) rfl rfl rfl rfl (by rw [hcs]; exact rowNd) rfl ?_
      simp only [nm0, nm1, nm2, nm3]
      refine wl_pure (v := .slice a len cap) (fun W => rfl) rfl ?_
      simp only [nm0, nm1, nm2, nm3]
      refine wl_call hM3 (args := #[.agg ca, .slice a len cap]) (v := .tuple #[.string s1, .int .i64 s2]) (fun W => run_call_fn W (enters_of Try.func12 (by kernel_rfl) rfl) rfl (by simp [Act.eval])) (KR.out W3 hM3.below hlen3) rfl fun W4 hM4 => ?_
      simp only [nm0, nm1, nm2, nm3]
      refine wl_pure (v := .tuple #[.string s1, .int .i64 s2]) (fun W => rfl) rfl ?_
      simp only [nm0, nm1, nm2, nm3]
      refine wl_pure (v := .string s1) (fun W => rfl) rfl ?_
      simp only [nm0, nm1, nm2, nm3]
      refine wl_pure (v := .int .i64 s2) (fun W => rfl) rfl ?_
      simp only [nm0, nm1, nm2, nm3]
      refine wl_pure (v := .string s1) (fun W => rfl) rfl ?_
      simp only [nm0, nm1, nm2, nm3]
      refine wl_pure (v := .int .i64 s2) (fun W => rfl) rfl ?_
      simp only [nm0, nm1, nm2, nm3]
      refine wpList_nil ?_
      have HM4 := Lib.hid hM4
      clear hM0 hM1 hM2 hM3 hM4 KC KR KF
      go_wp2_with fail
      go_loopw [46] (fun i wr => ∃ k : Nat, i = .int .i64 (k : Int) ∧ k ≤ len ∧ Mem w [(b2, .cells ca 25 (0, 0))] wr) (fun i _ => len - (Go.RowKit.intOf i).toNat)
      case atStart => exact ⟨0, rfl, Nat.zero_le _, HM4.out⟩
      case round =>
        obtain ⟨k, rfl, hk, hM⟩ := hrel
        clear HM4
        by_cases hlt : k < len
        · have b1b : decide ((k : Int) < (len : Int)) = true := decide_eq_true (by omega)
          obtain ⟨b, off, rfl, hbl, _⟩ := HROW.out.at_ (by omega)
          have hc := Lib.hid ((HROW.out.below hM.below).cells hlt)
          obtain ⟨r, er⟩ : ∃ x, x = L.getD k rl0 := ⟨_, rfl⟩
          rw [← er] at hc
          obtain ⟨nm, enm⟩ : ∃ x, x = r.name := ⟨_, rfl⟩
          have hr0 : r.cs.toArray[0]? = some (.string nm) := by rw [enm]; rfl
          have hcs5 : r.cs.toArray.size = 5 := rfl
          have hrc1 := rl_one r
          obtain ⟨ra, era⟩ : ∃ x, x = r.cs.toArray := ⟨_, rfl⟩
          rw [← era] at hc hr0 hcs5 hrc1
          clear era enm er
          have KT2 := Lib.hid (fun W hb => KT.out W hb nm)
          have KU2 := Lib.hid (fun W hb => KU.out W hb nm)
          obtain ⟨ts, ets⟩ : ∃ z, z = (if (N.get nm).kind = 4 then (N.get nm).str else ByteArray.empty) := ⟨_, rfl⟩
          obtain ⟨tk, etk⟩ : ∃ z, z = decide ((N.get nm).kind = 4) := ⟨_, rfl⟩
          rw [← ets, ← etk] at KT2 KU2
          clear ets etk
          go_upto_region 9 with fail
          refine wp_region_lit ?_
          refine wl_pure (v := .pointer (some ⟨b, off + k * 5, none⟩)) (fun W => run_index_of rfl rfl rfl (ix_Rl b off len cap k hlt W)) rfl ?_
          simp only [nm0, nm1, nm2, nm3]
          refine wl_val (v := .agg ra) (run_load_cs rfl rfl hc.out (by rw [hcs5]; exact rowRl)) rfl ?_
          simp only [nm0, nm1, nm2, nm3]
          refine wl_new hM (f := fun b => .pointer (some ⟨b, 0, none⟩)) (fun W => run_alloc_of rfl (al_Rl W)) rfl fun g W5 hM5 => ?_
          simp only [nm0, nm1, nm2, nm3]
          refine wl_set hM5 0 (cs := ra) rfl rfl rfl rfl (by rw [hcs5]; exact rowRl) (by rw [hcs5]; rfl) hrc1 rfl rfl fun W6 hM6 => ?_
          simp only [nm2, nm3] at hM6
          refine wpList_nil ?_
          go_upto_region 10 with fail
          refine wp_region_lit ?_
          refine wl_row hM6 1 (v := .agg ca) rfl rfl rfl rfl (by rw [hcs]; exact rowNd) rfl ?_
          simp only [nm0, nm1, nm2, nm3]
          refine wl_pure (v := .pointer (some ⟨g, 0, none⟩)) (fun W => run_field_of rfl rfl (fr_0 _ W)) rfl ?_
          simp only [nm0, nm1, nm2, nm3]
          refine wl_cell hM6 0 (v := .string nm) rfl rfl rfl hr0 cellS rfl ?_
          simp only [nm0, nm1, nm2, nm3]
          refine wl_call hM6 (args := #[.agg ca, .string nm]) (v := .tuple #[.string ts, .bool tk]) (fun W => run_call_fn W (enters_of Try.func13 (by kernel_rfl) rfl) rfl (by simp [Act.eval])) (KT2.out W6 hM6.below) rfl fun W7 hM7 => ?_
          simp only [nm0, nm1, nm2, nm3]
          refine wl_pure (v := .tuple #[.string ts, .bool tk]) (fun W => rfl) rfl ?_
          simp only [nm0, nm1, nm2, nm3]
          refine wl_pure (v := .string ts) (fun W => rfl) rfl ?_
          simp only [nm0, nm1, nm2, nm3]
          refine wl_pure (v := .bool tk) (fun W => rfl) rfl ?_
          simp only [nm0, nm1, nm2, nm3]
          refine wl_pure (v := .string ts) (fun W => rfl) rfl ?_
          simp only [nm0, nm1, nm2, nm3]
          refine wl_pure (v := .bool tk) (fun W => rfl) rfl ?_
          simp only [nm0, nm1, nm2, nm3]
          refine wpList_nil ?_
          go_upto_region 11 with fail
          refine wp_region_lit ?_
          refine wl_row hM7 1 (v := .agg ca) rfl rfl rfl rfl (by rw [hcs]; exact rowNd) rfl ?_
          simp only [nm0, nm1, nm2, nm3]
          refine wl_pure (v := .pointer (some ⟨g, 0, none⟩)) (fun W => run_field_of rfl rfl (fr_0 _ W)) rfl ?_
          simp only [nm0, nm1, nm2, nm3]
          refine wl_cell hM7 0 (v := .string nm) rfl rfl rfl hr0 cellS rfl ?_
          simp only [nm0, nm1, nm2, nm3]
          refine wl_call hM7 (args := #[.agg ca, .string nm]) (v := .tuple #[.string ts, .bool tk]) (fun W => run_call_fn W (enters_of Try.func14 (by kernel_rfl) rfl) rfl (by simp [Act.eval])) (KU2.out W7 hM7.below) rfl fun W8 hM8 => ?_
          simp only [nm0, nm1, nm2, nm3]
          refine wl_pure (v := .tuple #[.string ts, .bool tk]) (fun W => rfl) rfl ?_
          simp only [nm0, nm1, nm2, nm3]
          refine wl_pure (v := .string ts) (fun W => rfl) rfl ?_
          simp only [nm0, nm1, nm2, nm3]
          refine wl_pure (v := .bool tk) (fun W => rfl) rfl ?_
          simp only [nm0, nm1, nm2, nm3]
          refine wl_pure (v := .string ts) (fun W => rfl) rfl ?_
          simp only [nm0, nm1, nm2, nm3]
          refine wl_pure (v := .bool tk) (fun W => rfl) rfl ?_
          simp only [nm0, nm1, nm2, nm3]
          refine wpList_nil ?_
          have HM8 := Lib.hid hM8.tail
          clear hM hM5 hM6 hM7 hM8 hc KT KU KT2 KU2 hr0
          go_wp2_with fail
          exact ⟨⟨k + 1, rfl, hlt, HM8.out⟩, by show len - ((k : Int) + 1).toNat < len - (k : Int).toNat; omega⟩
        · have b1b : decide ((k : Int) < (len : Int)) = false := decide_eq_false (by omega)
          have HBL := Lib.hid hM.below
          clear hM
          go_wp2_with fail
          refine (KL.out wr).mono ?_
          rintro e W9 ⟨rfl, hb9⟩
          have HB9 := Lib.hid (HBL.out.trans (hb9.mono HBL.out.size))
          clear hb9
          go_wp2_with fail
          exact bodyPost_ret (results_slot rfl rfl) rfl ⟨rfl, HB9.out⟩
end Go.Proofs.Ytbheiglbejokmaa
