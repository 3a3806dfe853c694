/- The reference's Content is the program's (layer 32). Written by kp_gen_k.py. -/
import Derived.Test.YtbheiglbejokmaaKepJ
import Derived.Sort.KeysCollected
namespace Go.Proofs.Ytbheiglbejokmaa
set_option maxRecDepth 20000
set_option linter.unusedSimpArgs false
set_option linter.unusedVariables false
open Go.RowKit Go.Sort Go.Lib Go.MapKept
def srtB (l l' : List ByteArray) : Bool := decide ((l.map bl).Perm (l'.map bl)) && decide ((l'.map bl).Pairwise fun x y => x ≤ y)
theorem srt_of {l l' : List ByteArray} (h : srtB l l' = true) : srt l = l' := by
  unfold srtB at h
  rw [Bool.and_eq_true, decide_eq_true_eq, decide_eq_true_eq] at h
  have h1 : ((l.map bl).mergeSort fun x y => decide (x ≤ y)) = l'.map bl := by
    have h2 := mergeSort_of_perm h.1
    have h3 : (l'.map bl).mergeSort leB = l'.map bl := List.mergeSort_of_pairwise (h.2.imp fun h => by simpa [leB] using h)
    exact h2.trans h3
  rw [srt, h1, List.map_map]
  exact (List.map_congr_left fun s _ => lb_bl s).trans (List.map_id _)
theorem fin_mem : ∀ m al au mo : Bool, srtB (look (keptL m al au mo) kk_mem) (selT [kk_authd, kk_membership, kk_inv3] [au, true, mo] 3) = true := by decide +kernel
theorem fin_cre : ∀ m al au mo : Bool, srtB (look (keptL m al au mo) kk_cre) [kk_creator] = true := by decide +kernel
theorem fin_rul : ∀ m al au mo : Bool, srtB (look (keptL m al au mo) kk_rul) (selT [kk_allow, kk_join_rule] [m, true] 2) = true := by decide +kernel
theorem fin_lev : ∀ m al au mo : Bool, srtB (look (keptL m al au mo) kk_lev) (selT [kk_ban, kk_events, kk_events_default, kk_invite, kk_kick, kk_redact, kk_state_default, kk_users, kk_users_default] [true, true, true, mo, true, true, true, true, true] 9) = true := by decide +kernel
theorem fin_ali : ∀ m al au mo : Bool, srtB (look (keptL m al au mo) kk_ali) (selT [kk_aliases] [al] 1) = true := by decide +kernel
theorem fin_his : ∀ m al au mo : Bool, srtB (look (keptL m al au mo) kk_his) ([kk_history_visibility]) = true := by decide +kernel
theorem fin_red : ∀ m al au mo : Bool, srtB (look (keptL m al au mo) kk_red) (selT [kk_redacts] [mo] 1) = true := by decide +kernel
theorem fin_keys : ∀ m al au mo : Bool, ((keptL m al au mo).all fun p => [kk_mem, kk_cre, kk_rul, kk_lev, kk_ali, kk_his, kk_red].any fun k => decide (p.1 = k)) = true := by decide +kernel
theorem cont_at {v : Int} {kind : ByteArray} {l : List ByteArray} (hv : verB v = true) (hA : allB v kind = false) (h : srtB (look (keptL (gD v) (gC v) (gE v) (gF v)) kind) l = true) : l = contL v kind := by
  rw [contL, hv, if_pos rfl, hA, srt_of h]
  rfl
set_option maxRecDepth 20000 in
theorem rcont_any (w : World) (v : Int) (kind : ByteArray) :
    Calls Try.prog 23 #[.int .i64 v, .string kind] w fun e w' => ∃ x, e = .returned (.tuple #[x, .bool (allB v kind)]) ∧ TxAt w' x (contL v kind) ∧ Below w.heap.size w w' := by
  rcases hv : verB v with _ | _
  · have hB : allB v kind = false := by simp [allB, hv]
    have hL : contL v kind = [] := by simp [contL, hv]
    have hn : v < 1 ∨ 11 < v := by
      have : ¬ (1 ≤ v ∧ v ≤ 11) := by simpa [verB] using hv
      omega
    rw [hB, hL]
    have KO := Lib.hid (rof_out v w hn)
    clear hv hB hL hn
    go_enter Try.func23, Try.ntmps23
    go_wp2_with (go_at_call 51; refine KO.out.mono ?_; rintro e w1 ⟨rfl, rfl⟩)
    exact bodyPost_ret (results_tt rfl rfl rfl) rfl ⟨_, rfl, .inl ⟨rfl, rfl⟩, Below.refl _ _⟩
  by_cases d0 : kind = kk_mem
  · subst d0
    have hA : allB v kk_mem = false := by
      have : decide (kk_mem = kk_cre) = false := by decide +kernel
      simp [allB, this]
    rw [hA, ← cont_at hv hA (fin_mem _ _ _ _)]
    exact rcont_mem w v kk_mem hv (by decide +kernel) (by decide +kernel) (by decide +kernel) (by decide +kernel) (by decide +kernel) (by decide +kernel) (by decide +kernel)
  by_cases d1 : kind = kk_cre
  · subst d1
    rcases hF : gF v with _ | _
    · have hA : allB v kk_cre = false := by simp [allB, hF]
      rw [hA, ← cont_at hv hA (fin_cre _ _ _ _)]
      exact rcont_cre0 w v kk_cre hv hF (by decide +kernel) (by decide +kernel) (by decide +kernel) (by decide +kernel) (by decide +kernel) (by decide +kernel) (by decide +kernel)
    · have hA : allB v kk_cre = true := by simp [allB, hF, hv]
      have hL : contL v kk_cre = [] := by simp [contL, hA]
      rw [hA, hL]
      exact rcont_cre1 w v kk_cre hv hF (by decide +kernel) (by decide +kernel) (by decide +kernel) (by decide +kernel) (by decide +kernel) (by decide +kernel) (by decide +kernel)
  by_cases d2 : kind = kk_rul
  · subst d2
    have hA : allB v kk_rul = false := by
      have : decide (kk_rul = kk_cre) = false := by decide +kernel
      simp [allB, this]
    rw [hA, ← cont_at hv hA (fin_rul _ _ _ _)]
    exact rcont_rul w v kk_rul hv (by decide +kernel) (by decide +kernel) (by decide +kernel) (by decide +kernel) (by decide +kernel) (by decide +kernel) (by decide +kernel)
  by_cases d3 : kind = kk_lev
  · subst d3
    have hA : allB v kk_lev = false := by
      have : decide (kk_lev = kk_cre) = false := by decide +kernel
      simp [allB, this]
    rw [hA, ← cont_at hv hA (fin_lev _ _ _ _)]
    exact rcont_lev w v kk_lev hv (by decide +kernel) (by decide +kernel) (by decide +kernel) (by decide +kernel) (by decide +kernel) (by decide +kernel) (by decide +kernel)
  by_cases d4 : kind = kk_ali
  · subst d4
    have hA : allB v kk_ali = false := by
      have : decide (kk_ali = kk_cre) = false := by decide +kernel
      simp [allB, this]
    rw [hA, ← cont_at hv hA (fin_ali _ _ _ _)]
    exact rcont_ali w v kk_ali hv (by decide +kernel) (by decide +kernel) (by decide +kernel) (by decide +kernel) (by decide +kernel) (by decide +kernel) (by decide +kernel)
  by_cases d5 : kind = kk_his
  · subst d5
    have hA : allB v kk_his = false := by
      have : decide (kk_his = kk_cre) = false := by decide +kernel
      simp [allB, this]
    rw [hA, ← cont_at hv hA (fin_his _ _ _ _)]
    exact rcont_his w v kk_his hv (by decide +kernel) (by decide +kernel) (by decide +kernel) (by decide +kernel) (by decide +kernel) (by decide +kernel) (by decide +kernel)
  by_cases d6 : kind = kk_red
  · subst d6
    have hA : allB v kk_red = false := by
      have : decide (kk_red = kk_cre) = false := by decide +kernel
      simp [allB, this]
    rw [hA, ← cont_at hv hA (fin_red _ _ _ _)]
    exact rcont_red w v kk_red hv (by decide +kernel) (by decide +kernel) (by decide +kernel) (by decide +kernel) (by decide +kernel) (by decide +kernel) (by decide +kernel)
  have hA : allB v kind = false := by simp [allB, d1]
  have hl : look (keptL (gD v) (gC v) (gE v) (gF v)) kind = [] := by
    refine look_new _ _ fun p hp hk => ?_
    have h1 := List.all_eq_true.1 (fin_keys (gD v) (gC v) (gE v) (gF v)) p hp
    rw [hk] at h1
    simp only [List.any_cons, List.any_nil, Bool.or_false, Bool.or_eq_true, decide_eq_true_eq] at h1
    rcases h1 with h1 | h1 | h1 | h1 | h1 | h1 | h1
    · exact d0 h1
    · exact d1 h1
    · exact d2 h1
    · exact d3 h1
    · exact d4 h1
    · exact d5 h1
    · exact d6 h1
  have hL : contL v kind = [] := by
    rw [contL, hv, if_pos rfl, hA, hl]
    simp [srt]
  rw [hA, hL]
  exact rcont_none w v kind hv (by rw [is_mem]; simp [d0]) (by rw [is_cre]; simp [d1]) (by rw [is_rul]; simp [d2]) (by rw [is_lev]; simp [d3]) (by rw [is_ali]; simp [d4]) (by rw [is_his]; simp [d5]) (by rw [is_red]; simp [d6])
end Go.Proofs.Ytbheiglbejokmaa
