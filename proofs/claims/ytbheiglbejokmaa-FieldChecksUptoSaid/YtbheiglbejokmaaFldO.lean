/- The reference's Text and One (layer 29), over a node. -/
import Derived.Test.YtbheiglbejokmaaFldL
namespace Go.Proofs.Ytbheiglbejokmaa
set_option maxRecDepth 20000
set_option linter.unusedSimpArgs false
set_option linter.unusedVariables false
open Go.RowKit Go.Sort Go.Lib
attribute [local go_sem] Oper.semAt_some
theorem get_none {N : Nd} {k : ByteArray} (h : N.has k = false) : N.get k = zeroNd := by
  unfold Nd.has at h
  unfold Nd.get
  cases e : N.at_ k with
  | none => rfl
  | some i => rw [e] at h; cases h
set_option maxRecDepth 100000 in
set_option maxHeartbeats 4000000 in
theorem rtext_any (w : World) (cs : List Value) (N : Nd) (h : IsNd w cs N) (name : ByteArray) :
    Calls Try.prog 14 #[.agg cs.toArray, .string name] w fun e w' => e = .returned (.tuple #[.string (if (N.get name).kind = 4 then (N.get name).str else ByteArray.empty), .bool (decide ((N.get name).kind = 4))]) ∧ Below w.heap.size w w' := by
  have KG := Lib.hid (fun W hW => rget_any W cs N (h.keep hW) name)
  have hnone := Lib.hid (fun hh : N.has name = false => congrArg Nd.kind (get_none hh))
  obtain ⟨M, eM⟩ : ∃ M, M = N.get name := ⟨_, rfl⟩
  obtain ⟨ok, eok⟩ : ∃ b, b = N.has name := ⟨_, rfl⟩
  rw [← eM, ← eok] at KG
  rw [← eM, ← eok] at hnone
  rw [← eM]
  obtain ⟨kd, ekd⟩ : ∃ z, z = M.kind := ⟨_, rfl⟩
  obtain ⟨st, est⟩ : ∃ z, z = M.str := ⟨_, rfl⟩
  rw [← ekd] at hnone
  rw [← ekd, ← est]
  obtain ⟨rs, ers⟩ : ∃ z, z = (if kd = 4 then st else ByteArray.empty) := ⟨_, rfl⟩
  obtain ⟨rk, erk⟩ : ∃ z, z = decide (kd = 4) := ⟨_, rfl⟩
  rw [← ers, ← erk]
  have EK := Lib.hid ekd
  have ES := Lib.hid est
  have ER := Lib.hid (And.intro ers erk)
  have hcs := isNd_len h
  obtain ⟨ca, eca⟩ : ∃ z, z = cs.toArray := ⟨_, rfl⟩
  rw [← eca] at KG hcs ⊢
  clear eM eok ekd est ers erk h eca
  go_enter Try.func14, Try.ntmps14
  go_upto_region 0 with fail
  have hM0 := Mem.start w
  refine wp_region_lit ?_
  refine wl_new hM0 (f := fun b => .pointer (some ⟨b, 0, none⟩)) (ob := .cells ca 25 (0, 0)) (fun W => run_box_of rfl rfl (bx_Nd ca hcs W)) rfl fun b2 W1 hM1 => ?_
  simp only [nm0, nm1, nm2, nm3]
  refine wl_pure (v := .string ByteArray.empty) (fun W => rfl) rfl ?_
  simp only [nm0, nm1, nm2, nm3]
  refine wl_pure (v := .bool false) (fun W => rfl) rfl ?_
  simp only [nm0, nm1, nm2, nm3]
  refine wpList_nil ?_
  go_upto_region 1 with fail
  refine wp_region_lit ?_
  refine wl_row hM1 0 (v := .agg ca) rfl rfl rfl rfl (by rw [hcs]; exact rowNd) rfl ?_
  simp only [nm0, nm1, nm2, nm3]
  refine wl_pure (v := .string name) (fun W => rfl) rfl ?_
  simp only [nm0, nm1, nm2, nm3]
  refine wl_callX (args := #[.agg ca, .string name]) (fun W => run_call_fn W (enters_of Try.func44 (by kernel_rfl) rfl) rfl (by simp [Act.eval])) (KG.out _ hM1.below) rfl ?_
  rintro e w2 ⟨cs', hN, rfl, hb⟩
  refine ⟨_, rfl, ?_⟩
  simp only [nm0, nm1, nm2, nm3]
  have hk : cs'.toArray[0]? = some (.int .i64 kd) := by rw [EK.out]; cases hN; rfl
  have hs : cs'.toArray[2]? = some (.string st) := by rw [ES.out]; cases hN; rfl
  have h5 := isNd_len hN
  have h1 := isNd_one hN
  clear hN EK ES
  obtain ⟨kx, ekx⟩ : ∃ z, z = cs'.toArray := ⟨_, rfl⟩
  rw [← ekx] at hk hs h5 h1 ⊢
  clear ekx
  have hM2 := hM1.calls hb
  refine wl_pure (v := .tuple #[.agg kx, .bool ok]) (fun W => rfl) rfl ?_
  simp only [nm0, nm1, nm2, nm3]
  refine wl_pure (v := .agg kx) (fun W => rfl) rfl ?_
  simp only [nm0, nm1, nm2, nm3]
  refine wl_pure (v := .bool ok) (fun W => rfl) rfl ?_
  simp only [nm0, nm1, nm2, nm3]
  refine wl_new hM2 (f := fun b => .pointer (some ⟨b, 0, none⟩)) (fun W => run_alloc_of rfl (al_Nd W)) rfl fun b6 W3 hM3 => ?_
  simp only [nm0, nm1, nm2, nm3]
  refine wl_set hM3 0 (cs := kx) rfl rfl rfl rfl (by rw [h5]; exact rowNd) (by rw [h5]; rfl) h1 rfl rfl fun W4 hM4 => ?_
  simp only [nm2, nm3] at hM4
  refine wl_pure (v := .bool ok) (fun W => rfl) rfl ?_
  simp only [nm0, nm1, nm2, nm3]
  refine wpList_nil ?_
  have g0 := cell_of_row W4 b6 0 _ _ _ (hM4.get 0 rfl)
  have g2 := cell_of_row W4 b6 2 _ _ _ (hM4.get 0 rfl)
  rw [hk] at g0
  rw [hs] at g2
  have HB := Lib.hid hM4.below
  clear hM0 hM1 hM2 hM3 hM4 hb KG hk hs h5 h1
  cases ok with
  | false =>
    have h0 : kd = 0 := hnone.out rfl
    have hr : rs = ByteArray.empty ∧ rk = false := ⟨by rw [ER.out.1, h0]; rfl, by rw [ER.out.2, h0]; rfl⟩
    clear ER hnone h0
    go_wp2_with fail
    rw [hr.1, hr.2]
    exact bodyPost_ret (v := .tuple #[.string ByteArray.empty, .bool false]) (results_tt rfl rfl rfl) rfl ⟨rfl, HB.out⟩
  | true =>
    by_cases c4 : kd = 4
    · have hb4 : (kd != 4) = false := by rw [c4]; rfl
      have hr : rs = st ∧ rk = true := ⟨by rw [ER.out.1, if_pos c4], by rw [ER.out.2]; exact decide_eq_true c4⟩
      clear ER hnone c4
      go_wp2_with fail
      rw [hr.1, hr.2]
      exact bodyPost_ret (v := .tuple #[.string st, .bool true]) (results_tt rfl rfl rfl) rfl ⟨rfl, HB.out⟩
    · have hb4 : (kd != 4) = true := by simpa using c4
      have hr : rs = ByteArray.empty ∧ rk = false := ⟨by rw [ER.out.1, if_neg c4], by rw [ER.out.2]; exact decide_eq_false c4⟩
      clear ER hnone c4
      go_wp2_with fail
      rw [hr.1, hr.2]
      exact bodyPost_ret (v := .tuple #[.string ByteArray.empty, .bool false]) (results_tt rfl rfl rfl) rfl ⟨rfl, HB.out⟩
set_option maxRecDepth 100000 in
set_option maxHeartbeats 16000000 in
theorem rone_any (w : World) (cs : List Value) (N : Nd) (h : IsNd w cs N) (r : Rl) :
    Calls Try.prog 42 #[.agg cs.toArray, .agg r.cs.toArray] w fun e w' => e = .returned (.int .i64 (N.wrongE r)) ∧ Below w.heap.size w w' := by
  have KG := Lib.hid (fun W hW => rget_any W cs N (h.keep hW) r.name)
  obtain ⟨rs, ers⟩ : ∃ z, z = N.wrongE r := ⟨_, rfl⟩
  rw [← ers]
  unfold Nd.wrongE at ers
  obtain ⟨ok, eok⟩ : ∃ b, b = N.has r.name := ⟨_, rfl⟩
  obtain ⟨M, eM⟩ : ∃ M, M = N.get r.name := ⟨_, rfl⟩
  rw [← eM, ← eok] at KG ers
  obtain ⟨le, ele⟩ : ∃ z, z = M.lookE r := ⟨_, rfl⟩
  rw [← ele] at ers
  have hcs := isNd_len h
  obtain ⟨ca, eca⟩ : ∃ z, z = cs.toArray := ⟨_, rfl⟩
  rw [← eca] at KG hcs ⊢
  obtain ⟨nm, kd, mu, m, lw⟩ := r
  unfold Nd.lookE manyE longE lowE at ele
  obtain ⟨vk, evk⟩ : ∃ z, z = M.kind := ⟨_, rfl⟩
  obtain ⟨st, est⟩ : ∃ z, z = M.str := ⟨_, rfl⟩
  obtain ⟨nu, enu⟩ : ∃ z, z = M.num := ⟨_, rfl⟩
  obtain ⟨ll, ell⟩ : ∃ z, z = M.vals.length := ⟨_, rfl⟩
  rw [← evk] at ers
  rw [← evk, ← est, ← enu, ← ell] at ele
  have ERS := Lib.hid ers
  have LE := Lib.hid ele
  have EV := Lib.hid (And.intro evk (And.intro est (And.intro enu ell)))
  clear ers eM eok ele h eca evk est enu ell
  change Calls Try.prog 42 #[.agg ca, .agg #[.string nm, .int .i64 kd, .bool mu, .int .i64 m, .bool lw]] w _
  go_enter Try.func42, Try.ntmps42
  go_upto_region 0 with fail
  have hM0 := Mem.start w
  refine wp_region_lit ?_
  refine wl_new hM0 (f := fun b => .pointer (some ⟨b, 0, none⟩)) (ob := .cells ca 25 (0, 0)) (fun W => run_box_of rfl rfl (bx_Nd ca hcs W)) rfl fun b1 W1 hM1 => ?_
  simp only [nm0, nm1, nm2, nm3]
  refine wl_new hM1 (f := fun b => .pointer (some ⟨b, 0, none⟩)) (ob := .cells #[.string nm, .int .i64 kd, .bool mu, .int .i64 m, .bool lw] 35 (0, 0)) (fun W => run_box_of rfl rfl (bx_Rl nm kd mu m lw W)) rfl fun b2 W2 hM2 => ?_
  simp only [nm0, nm1, nm2, nm3]
  refine wl_pure (v := .int .i64 0) (fun W => rfl) rfl ?_
  simp only [nm0, nm1, nm2, nm3]
  refine wpList_nil ?_
  go_upto_region 1 with fail
  refine wp_region_lit ?_
  refine wl_row hM2 1 (v := .agg ca) rfl rfl rfl rfl (by rw [hcs]; exact rowNd) rfl ?_
  simp only [nm0, nm1, nm2, nm3]
  refine wl_pure (v := .pointer (some ⟨b2, 0, none⟩)) (fun W => run_field_of rfl rfl (fr_0 _ W)) rfl ?_
  simp only [nm0, nm1, nm2, nm3]
  refine wl_cell hM2 0 (v := .string nm) rfl rfl rfl rfl cellS rfl ?_
  simp only [nm0, nm1, nm2, nm3]
  refine wl_callX (args := #[.agg ca, .string nm]) (fun W => run_call_fn W (enters_of Try.func44 (by kernel_rfl) rfl) rfl (by simp [Act.eval])) (KG.out _ hM2.below) rfl ?_
  rintro e w2 ⟨cs', hN, rfl, hb⟩
  refine ⟨_, rfl, ?_⟩
  simp only [nm0, nm1, nm2, nm3]
  have hM3 := hM2.calls hb
  have hk0 : cs'.toArray[0]? = some (.int .i64 vk) := by rw [EV.out.1]; cases hN; rfl
  have hk1 : cs'.toArray[1]? = some (.int .i64 nu) := by rw [EV.out.2.2.1]; cases hN; rfl
  have hk2 : cs'.toArray[2]? = some (.string st) := by rw [EV.out.2.1]; cases hN; rfl
  obtain ⟨al, cl, hk4⟩ : ∃ al cl, cs'.toArray[4]? = some (.slice al ll cl) := by
    rw [EV.out.2.2.2]
    cases hN with
    | @mk kind n s ks ls ak lk ck al ll2 cl kid hkind hn hs hk hl hlm hrow hkids => exact ⟨al, cl, by rw [← hl]; rfl⟩
  have h5 := isNd_len hN
  have h1 := isNd_one hN
  obtain ⟨kx, ekx⟩ : ∃ z, z = cs'.toArray := ⟨_, rfl⟩
  rw [← ekx] at h5 h1 hk0 hk1 hk2 hk4 ⊢
  clear ekx hN EV
  refine wl_pure (v := .tuple #[.agg kx, .bool ok]) (fun W => rfl) rfl ?_
  simp only [nm0, nm1, nm2, nm3]
  refine wl_pure (v := .agg kx) (fun W => rfl) rfl ?_
  simp only [nm0, nm1, nm2, nm3]
  refine wl_pure (v := .bool ok) (fun W => rfl) rfl ?_
  simp only [nm0, nm1, nm2, nm3]
  refine wl_new hM3 (f := fun b => .pointer (some ⟨b, 0, none⟩)) (fun W => run_alloc_of rfl (al_Nd W)) rfl fun b3 W4 hM4 => ?_
  simp only [nm0, nm1, nm2, nm3]
  refine wl_set hM4 0 (cs := kx) rfl rfl rfl rfl (by rw [h5]; exact rowNd) (by rw [h5]; rfl) h1 rfl rfl fun W5 hM5 => ?_
  simp only [nm2, nm3] at hM5
  refine wl_pure (v := .bool ok) (fun W => rfl) rfl ?_
  simp only [nm0, nm1, nm2, nm3]
  refine wpList_nil ?_
  have HB := Lib.hid hM5.below
  have g0 := cell_of_row W5 b3 0 _ _ _ (hM5.get 0 rfl)
  have g1 := cell_of_row W5 b3 1 _ _ _ (hM5.get 0 rfl)
  have g2 := cell_of_row W5 b3 2 _ _ _ (hM5.get 0 rfl)
  have g4 := cell_of_row W5 b3 4 _ _ _ (hM5.get 0 rfl)
  have r1 := cell_of_row W5 b2 1 _ _ _ (hM5.get 1 rfl)
  have r2 := cell_of_row W5 b2 2 _ _ _ (hM5.get 1 rfl)
  have r3 := cell_of_row W5 b2 3 _ _ _ (hM5.get 1 rfl)
  have r4 := cell_of_row W5 b2 4 _ _ _ (hM5.get 1 rfl)
  rw [hk0] at g0
  rw [hk1] at g1
  rw [hk2] at g2
  rw [hk4] at g4
  simp only [List.getElem?_toArray, List.getElem?_cons_zero, List.getElem?_cons_succ] at r1 r2 r3 r4
  clear hM0 hM1 hM2 hM3 hM4 hM5 hb KG hk0 hk1 hk2 hk4 h5 h1 hcs
  cases ok with
  | false =>
    cases mu with
    | true =>
      have hr : rs = 15 := ERS.out
      clear ERS LE
      go_wp2_with fail
      try rw [hr]
      exact bodyPost_ret (results_slot rfl rfl) rfl ⟨rfl, HB.out⟩
    | false =>
      have hr : rs = 0 := ERS.out
      clear ERS LE
      go_wp2_with fail
      try rw [hr]
      exact bodyPost_ret (results_slot rfl rfl) rfl ⟨rfl, HB.out⟩
  | true =>
    by_cases c0 : kd = 0
    · subst c0
      have hre : rs = le := by rw [ERS.out]; simp
      clear ERS
      by_cases e4 : vk = 4
      · subst e4
        by_cases c1 : 0 < m
        · have b1 : decide (m > 0) = true := decide_eq_true c1
          by_cases c2 : m < (st.size : Int)
          · have b2 : decide ((st.size : Int) > m) = true := decide_eq_true c2
            have hr : rs = 4 := by rw [hre, LE.out]; simp [c1, c2]
            clear LE hre
            go_wp2_with fail
            try rw [hr]
            exact bodyPost_ret (results_slot rfl rfl) rfl ⟨rfl, HB.out⟩
          · have b2 : decide ((st.size : Int) > m) = false := decide_eq_false c2
            cases lw with
            | false =>
              have hr : rs = 0 := by rw [hre, LE.out]; simp [c2]
              clear LE hre
              go_wp2_with fail
              try rw [hr]
              exact bodyPost_ret (results_slot rfl rfl) rfl ⟨rfl, HB.out⟩
            | true =>
              have hr : rs = 0 := by rw [hre, LE.out]; simp [c2]
              clear LE hre
              go_wp2_with fail
              try rw [hr]
              exact bodyPost_ret (results_slot rfl rfl) rfl ⟨rfl, HB.out⟩
        · have b1 : decide (m > 0) = false := decide_eq_false c1
          cases lw with
          | false =>
            have hr : rs = 0 := by rw [hre, LE.out]; simp [c1]
            clear LE hre
            go_wp2_with fail
            try rw [hr]
            exact bodyPost_ret (results_slot rfl rfl) rfl ⟨rfl, HB.out⟩
          | true =>
            have hr : rs = 0 := by rw [hre, LE.out]; simp [c1]
            clear LE hre
            go_wp2_with fail
            try rw [hr]
            exact bodyPost_ret (results_slot rfl rfl) rfl ⟨rfl, HB.out⟩
      by_cases e5 : vk = 5
      · subst e5
        by_cases c1 : 0 < m
        · have b1 : decide (m > 0) = true := decide_eq_true c1
          by_cases c2 : m < (ll : Int)
          · have b2 : decide ((ll : Int) > m) = true := decide_eq_true c2
            have hr : rs = 18 := by rw [hre, LE.out]; simp [c1, c2]
            clear LE hre
            go_wp2_with fail
            try rw [hr]
            exact bodyPost_ret (results_slot rfl rfl) rfl ⟨rfl, HB.out⟩
          · have b2 : decide ((ll : Int) > m) = false := decide_eq_false c2
            cases lw with
            | false =>
              have hr : rs = 0 := by rw [hre, LE.out]; simp [c2]
              clear LE hre
              go_wp2_with fail
              try rw [hr]
              exact bodyPost_ret (results_slot rfl rfl) rfl ⟨rfl, HB.out⟩
            | true =>
              have hr : rs = 0 := by rw [hre, LE.out]; simp [c2]
              clear LE hre
              go_wp2_with fail
              try rw [hr]
              exact bodyPost_ret (results_slot rfl rfl) rfl ⟨rfl, HB.out⟩
        · have b1 : decide (m > 0) = false := decide_eq_false c1
          cases lw with
          | false =>
            have hr : rs = 0 := by rw [hre, LE.out]; simp [c1]
            clear LE hre
            go_wp2_with fail
            try rw [hr]
            exact bodyPost_ret (results_slot rfl rfl) rfl ⟨rfl, HB.out⟩
          | true =>
            have hr : rs = 0 := by rw [hre, LE.out]; simp [c1]
            clear LE hre
            go_wp2_with fail
            try rw [hr]
            exact bodyPost_ret (results_slot rfl rfl) rfl ⟨rfl, HB.out⟩
      by_cases e6 : vk = 6
      · subst e6
        by_cases c1 : 0 < m
        · have b1 : decide (m > 0) = true := decide_eq_true c1
          by_cases c2 : m < (ll : Int)
          · have b2 : decide ((ll : Int) > m) = true := decide_eq_true c2
            have hr : rs = 18 := by rw [hre, LE.out]; simp [c1, c2]
            clear LE hre
            go_wp2_with fail
            try rw [hr]
            exact bodyPost_ret (results_slot rfl rfl) rfl ⟨rfl, HB.out⟩
          · have b2 : decide ((ll : Int) > m) = false := decide_eq_false c2
            cases lw with
            | false =>
              have hr : rs = 0 := by rw [hre, LE.out]; simp [c2]
              clear LE hre
              go_wp2_with fail
              try rw [hr]
              exact bodyPost_ret (results_slot rfl rfl) rfl ⟨rfl, HB.out⟩
            | true =>
              have hr : rs = 0 := by rw [hre, LE.out]; simp [c2]
              clear LE hre
              go_wp2_with fail
              try rw [hr]
              exact bodyPost_ret (results_slot rfl rfl) rfl ⟨rfl, HB.out⟩
        · have b1 : decide (m > 0) = false := decide_eq_false c1
          cases lw with
          | false =>
            have hr : rs = 0 := by rw [hre, LE.out]; simp [c1]
            clear LE hre
            go_wp2_with fail
            try rw [hr]
            exact bodyPost_ret (results_slot rfl rfl) rfl ⟨rfl, HB.out⟩
          | true =>
            have hr : rs = 0 := by rw [hre, LE.out]; simp [c1]
            clear LE hre
            go_wp2_with fail
            try rw [hr]
            exact bodyPost_ret (results_slot rfl rfl) rfl ⟨rfl, HB.out⟩
      have n4 : (vk == 4) = false := by simpa using e4
      have n5 : (vk == 5) = false := by simpa using e5
      have n6 : (vk == 6) = false := by simpa using e6
      by_cases e3 : vk = 3
      · subst e3
        cases lw with
        | false =>
          by_cases c1 : 0 < m
          · have b1 : decide (m > 0) = true := decide_eq_true c1
            have hr : rs = 0 := by rw [hre, LE.out]; simp
            clear LE hre
            go_wp2_with fail
            try rw [hr]
            exact bodyPost_ret (results_slot rfl rfl) rfl ⟨rfl, HB.out⟩
          · have b1 : decide (m > 0) = false := decide_eq_false c1
            have hr : rs = 0 := by rw [hre, LE.out]; simp
            clear LE hre
            go_wp2_with fail
            try rw [hr]
            exact bodyPost_ret (results_slot rfl rfl) rfl ⟨rfl, HB.out⟩
        | true =>
          by_cases c2 : nu < 0
          · have b2 : decide (nu < 0) = true := decide_eq_true c2
            by_cases c1 : 0 < m
            · have b1 : decide (m > 0) = true := decide_eq_true c1
              have hr : rs = 2 := by rw [hre, LE.out]; simp [c2]
              clear LE hre
              go_wp2_with fail
              try rw [hr]
              exact bodyPost_ret (results_slot rfl rfl) rfl ⟨rfl, HB.out⟩
            · have b1 : decide (m > 0) = false := decide_eq_false c1
              have hr : rs = 2 := by rw [hre, LE.out]; simp [c2]
              clear LE hre
              go_wp2_with fail
              try rw [hr]
              exact bodyPost_ret (results_slot rfl rfl) rfl ⟨rfl, HB.out⟩
          · have b2 : decide (nu < 0) = false := decide_eq_false c2
            by_cases c1 : 0 < m
            · have b1 : decide (m > 0) = true := decide_eq_true c1
              have hr : rs = 0 := by rw [hre, LE.out]; simp [c2]
              clear LE hre
              go_wp2_with fail
              try rw [hr]
              exact bodyPost_ret (results_slot rfl rfl) rfl ⟨rfl, HB.out⟩
            · have b1 : decide (m > 0) = false := decide_eq_false c1
              have hr : rs = 0 := by rw [hre, LE.out]; simp [c2]
              clear LE hre
              go_wp2_with fail
              try rw [hr]
              exact bodyPost_ret (results_slot rfl rfl) rfl ⟨rfl, HB.out⟩
      have n3 : (vk == 3) = false := by simpa using e3
      cases lw with
      | false =>
        by_cases c1 : 0 < m
        · have b1 : decide (m > 0) = true := decide_eq_true c1
          have hr : rs = 0 := by rw [hre, LE.out]; simp [e3, e4, e5, e6]
          clear LE hre
          go_wp2_with fail
          try rw [hr]
          exact bodyPost_ret (results_slot rfl rfl) rfl ⟨rfl, HB.out⟩
        · have b1 : decide (m > 0) = false := decide_eq_false c1
          have hr : rs = 0 := by rw [hre, LE.out]; simp [e3, e4, e5, e6]
          clear LE hre
          go_wp2_with fail
          try rw [hr]
          exact bodyPost_ret (results_slot rfl rfl) rfl ⟨rfl, HB.out⟩
      | true =>
        by_cases c1 : 0 < m
        · have b1 : decide (m > 0) = true := decide_eq_true c1
          have hr : rs = 0 := by rw [hre, LE.out]; simp [e3, e4, e5, e6]
          clear LE hre
          go_wp2_with fail
          try rw [hr]
          exact bodyPost_ret (results_slot rfl rfl) rfl ⟨rfl, HB.out⟩
        · have b1 : decide (m > 0) = false := decide_eq_false c1
          have hr : rs = 0 := by rw [hre, LE.out]; simp [e3, e4, e5, e6]
          clear LE hre
          go_wp2_with fail
          try rw [hr]
          exact bodyPost_ret (results_slot rfl rfl) rfl ⟨rfl, HB.out⟩
    · have b0 : (kd != 0) = true := by simpa using c0
      by_cases c1 : kd = vk
      · subst c1
        have hre : rs = le := by rw [ERS.out]; simp
        clear ERS
        by_cases e4 : kd = 4
        · subst e4
          by_cases c1 : 0 < m
          · have b1 : decide (m > 0) = true := decide_eq_true c1
            by_cases c2 : m < (st.size : Int)
            · have b2 : decide ((st.size : Int) > m) = true := decide_eq_true c2
              have hr : rs = 4 := by rw [hre, LE.out]; simp [c1, c2]
              clear LE hre
              go_wp2_with fail
              try rw [hr]
              exact bodyPost_ret (results_slot rfl rfl) rfl ⟨rfl, HB.out⟩
            · have b2 : decide ((st.size : Int) > m) = false := decide_eq_false c2
              cases lw with
              | false =>
                have hr : rs = 0 := by rw [hre, LE.out]; simp [c2]
                clear LE hre
                go_wp2_with fail
                try rw [hr]
                exact bodyPost_ret (results_slot rfl rfl) rfl ⟨rfl, HB.out⟩
              | true =>
                have hr : rs = 0 := by rw [hre, LE.out]; simp [c2]
                clear LE hre
                go_wp2_with fail
                try rw [hr]
                exact bodyPost_ret (results_slot rfl rfl) rfl ⟨rfl, HB.out⟩
          · have b1 : decide (m > 0) = false := decide_eq_false c1
            cases lw with
            | false =>
              have hr : rs = 0 := by rw [hre, LE.out]; simp [c1]
              clear LE hre
              go_wp2_with fail
              try rw [hr]
              exact bodyPost_ret (results_slot rfl rfl) rfl ⟨rfl, HB.out⟩
            | true =>
              have hr : rs = 0 := by rw [hre, LE.out]; simp [c1]
              clear LE hre
              go_wp2_with fail
              try rw [hr]
              exact bodyPost_ret (results_slot rfl rfl) rfl ⟨rfl, HB.out⟩
        by_cases e5 : kd = 5
        · subst e5
          by_cases c1 : 0 < m
          · have b1 : decide (m > 0) = true := decide_eq_true c1
            by_cases c2 : m < (ll : Int)
            · have b2 : decide ((ll : Int) > m) = true := decide_eq_true c2
              have hr : rs = 18 := by rw [hre, LE.out]; simp [c1, c2]
              clear LE hre
              go_wp2_with fail
              try rw [hr]
              exact bodyPost_ret (results_slot rfl rfl) rfl ⟨rfl, HB.out⟩
            · have b2 : decide ((ll : Int) > m) = false := decide_eq_false c2
              cases lw with
              | false =>
                have hr : rs = 0 := by rw [hre, LE.out]; simp [c2]
                clear LE hre
                go_wp2_with fail
                try rw [hr]
                exact bodyPost_ret (results_slot rfl rfl) rfl ⟨rfl, HB.out⟩
              | true =>
                have hr : rs = 0 := by rw [hre, LE.out]; simp [c2]
                clear LE hre
                go_wp2_with fail
                try rw [hr]
                exact bodyPost_ret (results_slot rfl rfl) rfl ⟨rfl, HB.out⟩
          · have b1 : decide (m > 0) = false := decide_eq_false c1
            cases lw with
            | false =>
              have hr : rs = 0 := by rw [hre, LE.out]; simp [c1]
              clear LE hre
              go_wp2_with fail
              try rw [hr]
              exact bodyPost_ret (results_slot rfl rfl) rfl ⟨rfl, HB.out⟩
            | true =>
              have hr : rs = 0 := by rw [hre, LE.out]; simp [c1]
              clear LE hre
              go_wp2_with fail
              try rw [hr]
              exact bodyPost_ret (results_slot rfl rfl) rfl ⟨rfl, HB.out⟩
        by_cases e6 : kd = 6
        · subst e6
          by_cases c1 : 0 < m
          · have b1 : decide (m > 0) = true := decide_eq_true c1
            by_cases c2 : m < (ll : Int)
            · have b2 : decide ((ll : Int) > m) = true := decide_eq_true c2
              have hr : rs = 18 := by rw [hre, LE.out]; simp [c1, c2]
              clear LE hre
              go_wp2_with fail
              try rw [hr]
              exact bodyPost_ret (results_slot rfl rfl) rfl ⟨rfl, HB.out⟩
            · have b2 : decide ((ll : Int) > m) = false := decide_eq_false c2
              cases lw with
              | false =>
                have hr : rs = 0 := by rw [hre, LE.out]; simp [c2]
                clear LE hre
                go_wp2_with fail
                try rw [hr]
                exact bodyPost_ret (results_slot rfl rfl) rfl ⟨rfl, HB.out⟩
              | true =>
                have hr : rs = 0 := by rw [hre, LE.out]; simp [c2]
                clear LE hre
                go_wp2_with fail
                try rw [hr]
                exact bodyPost_ret (results_slot rfl rfl) rfl ⟨rfl, HB.out⟩
          · have b1 : decide (m > 0) = false := decide_eq_false c1
            cases lw with
            | false =>
              have hr : rs = 0 := by rw [hre, LE.out]; simp [c1]
              clear LE hre
              go_wp2_with fail
              try rw [hr]
              exact bodyPost_ret (results_slot rfl rfl) rfl ⟨rfl, HB.out⟩
            | true =>
              have hr : rs = 0 := by rw [hre, LE.out]; simp [c1]
              clear LE hre
              go_wp2_with fail
              try rw [hr]
              exact bodyPost_ret (results_slot rfl rfl) rfl ⟨rfl, HB.out⟩
        have n4 : (kd == 4) = false := by simpa using e4
        have n5 : (kd == 5) = false := by simpa using e5
        have n6 : (kd == 6) = false := by simpa using e6
        by_cases e3 : kd = 3
        · subst e3
          cases lw with
          | false =>
            by_cases c1 : 0 < m
            · have b1 : decide (m > 0) = true := decide_eq_true c1
              have hr : rs = 0 := by rw [hre, LE.out]; simp
              clear LE hre
              go_wp2_with fail
              try rw [hr]
              exact bodyPost_ret (results_slot rfl rfl) rfl ⟨rfl, HB.out⟩
            · have b1 : decide (m > 0) = false := decide_eq_false c1
              have hr : rs = 0 := by rw [hre, LE.out]; simp
              clear LE hre
              go_wp2_with fail
              try rw [hr]
              exact bodyPost_ret (results_slot rfl rfl) rfl ⟨rfl, HB.out⟩
          | true =>
            by_cases c2 : nu < 0
            · have b2 : decide (nu < 0) = true := decide_eq_true c2
              by_cases c1 : 0 < m
              · have b1 : decide (m > 0) = true := decide_eq_true c1
                have hr : rs = 2 := by rw [hre, LE.out]; simp [c2]
                clear LE hre
                go_wp2_with fail
                try rw [hr]
                exact bodyPost_ret (results_slot rfl rfl) rfl ⟨rfl, HB.out⟩
              · have b1 : decide (m > 0) = false := decide_eq_false c1
                have hr : rs = 2 := by rw [hre, LE.out]; simp [c2]
                clear LE hre
                go_wp2_with fail
                try rw [hr]
                exact bodyPost_ret (results_slot rfl rfl) rfl ⟨rfl, HB.out⟩
            · have b2 : decide (nu < 0) = false := decide_eq_false c2
              by_cases c1 : 0 < m
              · have b1 : decide (m > 0) = true := decide_eq_true c1
                have hr : rs = 0 := by rw [hre, LE.out]; simp [c2]
                clear LE hre
                go_wp2_with fail
                try rw [hr]
                exact bodyPost_ret (results_slot rfl rfl) rfl ⟨rfl, HB.out⟩
              · have b1 : decide (m > 0) = false := decide_eq_false c1
                have hr : rs = 0 := by rw [hre, LE.out]; simp [c2]
                clear LE hre
                go_wp2_with fail
                try rw [hr]
                exact bodyPost_ret (results_slot rfl rfl) rfl ⟨rfl, HB.out⟩
        have n3 : (kd == 3) = false := by simpa using e3
        cases lw with
        | false =>
          by_cases c1 : 0 < m
          · have b1 : decide (m > 0) = true := decide_eq_true c1
            have hr : rs = 0 := by rw [hre, LE.out]; simp [e3, e4, e5, e6]
            clear LE hre
            go_wp2_with fail
            try rw [hr]
            exact bodyPost_ret (results_slot rfl rfl) rfl ⟨rfl, HB.out⟩
          · have b1 : decide (m > 0) = false := decide_eq_false c1
            have hr : rs = 0 := by rw [hre, LE.out]; simp [e3, e4, e5, e6]
            clear LE hre
            go_wp2_with fail
            try rw [hr]
            exact bodyPost_ret (results_slot rfl rfl) rfl ⟨rfl, HB.out⟩
        | true =>
          by_cases c1 : 0 < m
          · have b1 : decide (m > 0) = true := decide_eq_true c1
            have hr : rs = 0 := by rw [hre, LE.out]; simp [e3, e4, e5, e6]
            clear LE hre
            go_wp2_with fail
            try rw [hr]
            exact bodyPost_ret (results_slot rfl rfl) rfl ⟨rfl, HB.out⟩
          · have b1 : decide (m > 0) = false := decide_eq_false c1
            have hr : rs = 0 := by rw [hre, LE.out]; simp [e3, e4, e5, e6]
            clear LE hre
            go_wp2_with fail
            try rw [hr]
            exact bodyPost_ret (results_slot rfl rfl) rfl ⟨rfl, HB.out⟩
      · have b1 : (vk != kd) = true := by simpa using fun e => c1 e.symm
        have hr : rs = 16 := by rw [ERS.out]; simp [c0, c1]
        clear ERS LE
        go_wp2_with fail
        try rw [hr]
        exact bodyPost_ret (results_slot rfl rfl) rfl ⟨rfl, HB.out⟩
end Go.Proofs.Ytbheiglbejokmaa
