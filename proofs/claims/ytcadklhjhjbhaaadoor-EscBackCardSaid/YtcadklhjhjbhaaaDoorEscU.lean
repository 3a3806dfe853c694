/- esc (layer 4): EscBack. -/
import Derived.Test.YtcadklhjhjbhaaaDoorEscT
namespace Go.Proofs.YtcadklhjhjbhaaaDoor
set_option maxRecDepth 20000
set_option linter.unusedSimpArgs false
set_option linter.unusedVariables false
open Go.RowKit Go.Lib Go.Shelf
attribute [local go_sem] Oper.semAt_some
theorem unq_no0 (L : List UInt8) : ∀ (d i : Nat), L.length - i = d → unq L i ≠ .error 0 := by
  intro d
  induction d using Nat.strongRecOn with
  | ind d ih =>
    intro i hd h
    by_cases hi : L.length ≤ i
    · rw [unq_end hi] at h; cases h
    by_cases h34 : at_ L i = 34
    · rw [unq_quote (by omega) h34] at h; cases h
    by_cases h32 : at_ L i < 32
    · rw [unq_low (by omega) h32] at h; cases h
    have step : ∀ a P, i < a → pre P (unq L a) ≠ .error 0 := fun a P ha hp => by
      cases hu : unq L a with
      | ok r => rw [hu] at hp; obtain ⟨x, y⟩ := r; cases hp
      | error m =>
        rw [hu] at hp
        have hm : m = 0 := Except.error.inj hp
        exact ih (L.length - a) (by omega) a rfl (by rw [hu, hm])
    by_cases h92 : at_ L i = 92
    · rw [unq_esc (by omega) h92] at h
      cases he : escV L (i + 1) with
      | error m =>
        rw [he] at h
        have hm : m = 0 := Except.error.inj h
        exact esc_no0 (by rw [he, hm])
      | ok r =>
        obtain ⟨n, a⟩ := r
        rw [he] at h
        have := esc_lt he
        exact step a _ (by omega) h
    · rw [unq_cp (by omega) h34 (by omega) h92] at h
      cases hx : nx (L.drop i) with
      | none => rw [hx] at h; cases h
      | some r =>
        obtain ⟨n, k⟩ := r
        rw [hx] at h
        have := nx_lt hx
        exact step (i + k) _ (by omega) h
theorem read_no0 {L : List UInt8} {a : Int} {m : Nat} (h : unquoteV L a = .error m) : m ≠ 0 := by
  rintro rfl
  unfold unquoteV at h
  split at h
  · cases h
  · split at h
    · cases h
    · split at h
      · cases h
      · exact unq_no0 L _ _ rfl h
theorem bytes_back (s : ByteArray) : (⟨s.data.toList.toArray⟩ : ByteArray) = s := by cases s; simp
theorem quote_small {L : List UInt8} (hL : L.length ≤ 300) : (quoteL L).length ≤ 100000 := by
  unfold quoteL
  rw [outL_eq]
  have hn : (cpN L).length ≤ 300 := by
    have := cps_len _ L 0 rfl
    unfold cpN
    rw [List.length_map]
    omega
  have h6 : ∀ ns : List Nat, (ns.flatMap oneV).length ≤ 6 * ns.length := fun ns => by
    induction ns with
    | nil => simp
    | cons n ns ih =>
      rw [List.flatMap_cons, List.length_append, List.length_cons]
      have := oneV_six n
      omega
  have := h6 (cpN L)
  simp only [List.cons_append, List.length_cons, List.length_append, List.length_nil]
  omega
set_option maxHeartbeats 4000000 in
theorem escBack_w (s t : ByteArray) (w : World) (hT : Tabs w) : Calls Tryd.prog 5 #[.string s, .string t] w fun e w' => e = .returned (.bool true) ∧ Below w.heap.size w w' := by
  have h2 := tabs_size hT
  by_cases hs : 300 < s.size
  · have p1 : (300 : Int) < (s.size : Int) := by omega
    go_enter Tryd.func5, Tryd.ntmps5
    go_wp2_with fail
    refine (elives_any w hT).mono ?_
    rintro e w1 ⟨rfl, hb1⟩
    go_wp2_with fail
    go_ret
    exact ⟨rfl, hb1⟩
  have p1 : ¬ (300 : Int) < (s.size : Int) := by omega
  by_cases ht : 300 < t.size
  · have p2 : (300 : Int) < (t.size : Int) := by omega
    go_enter Tryd.func5, Tryd.ntmps5
    go_wp2_with fail
    refine (elives_any w hT).mono ?_
    rintro e w1 ⟨rfl, hb1⟩
    go_wp2_with fail
    go_ret
    exact ⟨rfl, hb1⟩
  have p2 : ¬ (300 : Int) < (t.size : Int) := by omega
  have K1 := fun w hT => quote_any s (by omega) w hT
  have K3 := fun w hT => unquote_any t 0 w (by omega) hT
  have KL := Lib.hid (fun w hT => elives_any w hT)
  have hlen : s.data.toList.length = s.size := len_of s
  have htl : t.data.toList.length = t.size := len_of t
  -- what is read of t: an error, or a text
  have hr : (∃ m : Nat, ansU (unquoteV t.data.toList 0) = ([], 0, m) ∧ m ≠ 0) ∨ ∃ (Y : List UInt8) (j : Nat), ansU (unquoteV t.data.toList 0) = (Y, j, 0) ∧ validB Y = true ∧ (quoteL Y).length ≤ j ∧ Y.length ≤ 300 := by
    cases hu : unquoteV t.data.toList 0 with
    | error m => exact .inl ⟨m, rfl, read_no0 hu⟩
    | ok r =>
      obtain ⟨Y, j⟩ := r
      obtain ⟨h1, h3, h4⟩ := read_quoted (by omega) hu
      exact .inr ⟨Y, j, rfl, h1, h3, by omega⟩
  by_cases hv : validB s.data.toList = true
  · have hq : quoteR s.data.toList = .tuple #[.string ⟨(quoteL s.data.toList).toArray⟩, .int .i64 0] := by unfold quoteR; rw [if_pos hv]
    have hback := back_any (by omega) hv
    have hql := quote_small (L := s.data.toList) (by omega)
    have K2 := fun w hT => unquote_any ⟨(quoteL s.data.toList).toArray⟩ 0 w (by rw [size_bytes]; exact hql) hT
    rw [show ansU (unquoteV (⟨(quoteL s.data.toList).toArray⟩ : ByteArray).data.toList 0) = (s.data.toList, (quoteL s.data.toList).length, 0) by
      show ansU (unquoteV ((quoteL s.data.toList).toArray).toList 0) = _
      rw [hback]
      rfl] at K2
    simp only [retU, bytes_back] at K2
    rw [hq] at K1
    generalize quoteL s.data.toList = Q at *
    have H1 := Lib.hid K1
    have H2 := Lib.hid K2
    clear hv hq hback K1 K2 hql
    rcases hr with ⟨m, hr, hm⟩ | ⟨Y, j, hr, hY, hj, hYl⟩
    · rw [hr] at K3
      simp only [retU] at K3
      have H3 := Lib.hid K3
      have em : ((m : Int) == 0) = false := by simp; omega
      have em2 : ((m : Int) != 0) = true := by simp; omega
      clear K3 hr hm
      go_enter Tryd.func5, Tryd.ntmps5
      go_wp2_with fail
      refine (H1.out _ hT).mono ?_
      rintro e w1 ⟨rfl, hb1⟩
      have hT := tabs_low h2 hT hb1
      have HB := Lib.hid hb1
      clear hb1
      go_wp2_with fail
      refine (H2.out _ hT).mono ?_
      rintro e w1 ⟨rfl, hb2⟩
      have hb2' := hb2.mono HB.out.size
      have hT := tabs_low h2 hT hb2'
      have HB := Lib.hid (HB.out.trans hb2')
      clear hb2 hb2'
      go_wp2_with fail
      refine (H3.out _ hT).mono ?_
      rintro e w1 ⟨rfl, hb2⟩
      have hb2' := hb2.mono HB.out.size
      have hT := tabs_low h2 hT hb2'
      have HB := Lib.hid (HB.out.trans hb2')
      clear hb2 hb2'
      go_wp2_with fail
      refine (KL.out _ hT).mono ?_
      rintro e w1 ⟨rfl, hb2⟩
      have hb2' := hb2.mono HB.out.size
      have hT := tabs_low h2 hT hb2'
      have HB := Lib.hid (HB.out.trans hb2')
      clear hb2 hb2'
      go_wp2_with fail
      go_ret
      exact ⟨rfl, HB.out⟩
    · rw [hr] at K3
      simp only [retU] at K3
      have H3 := Lib.hid K3
      have K4 := fun w hT => quote_any ⟨Y.toArray⟩ (by rw [size_bytes]; omega) w hT
      rw [show quoteR (⟨Y.toArray⟩ : ByteArray).data.toList = .tuple #[.string ⟨(quoteL Y).toArray⟩, .int .i64 0] by show quoteR Y = _; unfold quoteR; rw [if_pos hY]] at K4
      have H4 := Lib.hid K4
      have p5 : ((quoteL Y).length : Int) ≤ (j : Int) := by omega
      clear K3 K4 hr hj hY
      generalize quoteL Y = Z at *
      go_enter Tryd.func5, Tryd.ntmps5
      go_wp2_with fail
      refine (H1.out _ hT).mono ?_
      rintro e w1 ⟨rfl, hb1⟩
      have hT := tabs_low h2 hT hb1
      have HB := Lib.hid hb1
      clear hb1
      go_wp2_with fail
      refine (H2.out _ hT).mono ?_
      rintro e w1 ⟨rfl, hb2⟩
      have hb2' := hb2.mono HB.out.size
      have hT := tabs_low h2 hT hb2'
      have HB := Lib.hid (HB.out.trans hb2')
      clear hb2 hb2'
      go_wp2_with fail
      refine (H3.out _ hT).mono ?_
      rintro e w1 ⟨rfl, hb2⟩
      have hb2' := hb2.mono HB.out.size
      have hT := tabs_low h2 hT hb2'
      have HB := Lib.hid (HB.out.trans hb2')
      clear hb2 hb2'
      go_wp2_with fail
      refine (H4.out _ hT).mono ?_
      rintro e w1 ⟨rfl, hb2⟩
      have hb2' := hb2.mono HB.out.size
      have hT := tabs_low h2 hT hb2'
      have HB := Lib.hid (HB.out.trans hb2')
      clear hb2 hb2'
      go_wp2_with fail
      refine (KL.out _ hT).mono ?_
      rintro e w1 ⟨rfl, hb2⟩
      have hb2' := hb2.mono HB.out.size
      have hT := tabs_low h2 hT hb2'
      have HB := Lib.hid (HB.out.trans hb2')
      clear hb2 hb2'
      go_wp2_with fail
      go_ret
      exact ⟨rfl, HB.out⟩
  · have hq : quoteR s.data.toList = .tuple #[.string ⟨#[]⟩, .int .i64 10] := by unfold quoteR; rw [if_neg hv]
    rw [hq] at K1
    have H1 := Lib.hid K1
    clear hv hq K1
    rcases hr with ⟨m, hr, hm⟩ | ⟨Y, j, hr, hY, hj, hYl⟩
    · rw [hr] at K3
      simp only [retU] at K3
      have H3 := Lib.hid K3
      have em : ((m : Int) == 0) = false := by simp; omega
      have em2 : ((m : Int) != 0) = true := by simp; omega
      clear K3 hr hm
      go_enter Tryd.func5, Tryd.ntmps5
      go_wp2_with fail
      refine (H1.out _ hT).mono ?_
      rintro e w1 ⟨rfl, hb1⟩
      have hT := tabs_low h2 hT hb1
      have HB := Lib.hid hb1
      clear hb1
      go_wp2_with fail
      refine (H3.out _ hT).mono ?_
      rintro e w1 ⟨rfl, hb2⟩
      have hb2' := hb2.mono HB.out.size
      have hT := tabs_low h2 hT hb2'
      have HB := Lib.hid (HB.out.trans hb2')
      clear hb2 hb2'
      go_wp2_with fail
      refine (KL.out _ hT).mono ?_
      rintro e w1 ⟨rfl, hb2⟩
      have hb2' := hb2.mono HB.out.size
      have hT := tabs_low h2 hT hb2'
      have HB := Lib.hid (HB.out.trans hb2')
      clear hb2 hb2'
      go_wp2_with fail
      go_ret
      exact ⟨rfl, HB.out⟩
    · rw [hr] at K3
      simp only [retU] at K3
      have H3 := Lib.hid K3
      have K4 := fun w hT => quote_any ⟨Y.toArray⟩ (by rw [size_bytes]; omega) w hT
      rw [show quoteR (⟨Y.toArray⟩ : ByteArray).data.toList = .tuple #[.string ⟨(quoteL Y).toArray⟩, .int .i64 0] by show quoteR Y = _; unfold quoteR; rw [if_pos hY]] at K4
      have H4 := Lib.hid K4
      have p5 : ((quoteL Y).length : Int) ≤ (j : Int) := by omega
      clear K3 K4 hr hj hY
      generalize quoteL Y = Z at *
      go_enter Tryd.func5, Tryd.ntmps5
      go_wp2_with fail
      refine (H1.out _ hT).mono ?_
      rintro e w1 ⟨rfl, hb1⟩
      have hT := tabs_low h2 hT hb1
      have HB := Lib.hid hb1
      clear hb1
      go_wp2_with fail
      refine (H3.out _ hT).mono ?_
      rintro e w1 ⟨rfl, hb2⟩
      have hb2' := hb2.mono HB.out.size
      have hT := tabs_low h2 hT hb2'
      have HB := Lib.hid (HB.out.trans hb2')
      clear hb2 hb2'
      go_wp2_with fail
      refine (H4.out _ hT).mono ?_
      rintro e w1 ⟨rfl, hb2⟩
      have hb2' := hb2.mono HB.out.size
      have hT := tabs_low h2 hT hb2'
      have HB := Lib.hid (HB.out.trans hb2')
      clear hb2 hb2'
      go_wp2_with fail
      refine (KL.out _ hT).mono ?_
      rintro e w1 ⟨rfl, hb2⟩
      have hb2' := hb2.mono HB.out.size
      have hT := tabs_low h2 hT hb2'
      have HB := Lib.hid (HB.out.trans hb2')
      clear hb2 hb2'
      go_wp2_with fail
      go_ret
      exact ⟨rfl, HB.out⟩
end Go.Proofs.YtcadklhjhjbhaaaDoor
