/- The law's same (layer 32). -/
import Derived.Test.YtbheiglbejokmaaKepG
namespace Go.Proofs.Ytbheiglbejokmaa
set_option maxRecDepth 20000
set_option linter.unusedSimpArgs false
set_option linter.unusedVariables false
open Go.RowKit Go.Sort Go.Lib Go.MapKept
attribute [local go_sem] Oper.semAt_some
theorem TxAt.open_ {w : World} {v : Value} {l : List ByteArray} (h : TxAt w v l) : ∃ a cap, v = .slice a l.length cap ∧ l.length ≤ cap ∧ cap ≤ maxLen ∧ ∀ j, j < l.length → ∃ g, a = some ⟨g, 0, none⟩ ∧ w.cell? ⟨g, j, none⟩ = some (.string (l.getD j ByteArray.empty)) := by
  rcases h with ⟨rfl, rfl⟩ | ⟨g, cap, cs, rfl, h2, h3, h4, h5, h6⟩
  · exact ⟨none, 0, rfl, Nat.le_refl _, by decide, fun j hj => absurd hj (Nat.not_lt_zero _)⟩
  · refine ⟨_, cap, rfl, h2, h3, fun j hj => ⟨g, rfl, ?_⟩⟩
    rw [cell_of_row w g j cs _ _ h4]
    have h7 : (cs.toList.take l.length)[j]? = (vsT l)[j]? := by rw [h6]
    rw [List.getElem?_take_of_lt hj, Array.getElem?_toList] at h7
    rw [h7, vsT, List.getElem?_map, List.getElem?_eq_getElem hj, List.getD_eq_getElem?_getD, List.getElem?_eq_getElem hj]
    rfl
theorem take_getD (l : List ByteArray) (k : Nat) (h : k < l.length) : l.take (k + 1) = l.take k ++ [l.getD k ByteArray.empty] := by
  rw [List.take_add_one, List.getD_eq_getElem?_getD, List.getElem?_eq_getElem h]
  rfl
theorem same_any (w : World) (va vb : Value) (la lb : List ByteArray) (ha : TxAt w va la) (hb : TxAt w vb lb) (hl : la.length ≤ 1000) (hm : lb.length ≤ 1000) :
    Calls Try.prog 21 #[va, vb] w fun e w' => e = .returned (.bool (decide (la = lb))) ∧ w = w' := by
  obtain ⟨a, ca, rfl, hca, hcm, HA⟩ := ha.open_
  obtain ⟨b, cb, rfl, hcb, hcn, HB⟩ := hb.open_
  clear ha hb
  by_cases hn : la.length = lb.length
  · rw [← hn] at HB hcb ⊢
    obtain ⟨n, en⟩ : ∃ z, z = la.length := ⟨_, rfl⟩
    have hla := Lib.hid (show la.length = n from en.symm)
    have hlb := Lib.hid (show lb.length = n from hn.symm.trans en.symm)
    rw [← en] at hl hca HA HB hcb ⊢
    obtain ⟨rs, ers⟩ : ∃ z, z = decide (la = lb) := ⟨_, rfl⟩
    rw [← ers]
    have ERS := Lib.hid ers
    clear hn hm en ers
    have HA' := Lib.hid HA
    have HB' := Lib.hid HB
    have hn0 : (n : Int) ≤ 1000 := by omega
    clear HA HB
    go_enter Try.func21, Try.ntmps21
    go_wp2_with fail
    go_loop [14] (fun i => ∃ k : Nat, k ≤ n ∧ i = .int .i64 k ∧ la.take k = lb.take k) (fun i => n - (intOf i).toNat)
    case atStart => exact ⟨0, by omega, rfl, rfl⟩
    case round =>
      obtain ⟨k, hk, rfl, htk⟩ := hrel
      have HT := Lib.hid htk
      clear htk
      by_cases hlt : k < n
      · obtain ⟨g, rfl, h1⟩ := HA'.out k hlt
        obtain ⟨g', rfl, h2⟩ := HB'.out k hlt
        obtain ⟨x, ex⟩ : ∃ z, z = la.getD k ByteArray.empty := ⟨_, rfl⟩
        obtain ⟨y, ey⟩ : ∃ z, z = lb.getD k ByteArray.empty := ⟨_, rfl⟩
        rw [← ex] at h1
        rw [← ey] at h2
        have EX := Lib.hid ex
        have EY := Lib.hid ey
        clear ex ey
        have hlti : (k : Int) < n := by omega
        by_cases hxy : y = x
        · subst hxy
          go_wp2_with fail
          go_round
          case rel =>
            refine ⟨k + 1, by omega, by go_num, ?_⟩
            rw [take_getD _ _ (by have := hla.out; omega), take_getD _ _ (by have := hlb.out; omega), ← EX.out, ← EY.out, HT.out]
          case measure => simp [intOf]; omega
        · have c1 : (y.toList == x.toList) = false := text_ne hxy
          have HN : rs = false := by
            rw [ERS.out, decide_eq_false_iff_not]
            intro e
            rw [← e] at EY
            exact hxy (EY.out.trans EX.out.symm)
          subst HN
          clear hxy
          go_wp2_with fail
          exact bodyPost_ret (results_slot rfl rfl) rfl ⟨rfl, rfl⟩
      · have HN : rs = true := by
          rw [ERS.out]
          have hkn : k = n := by omega
          have h3 := HT.out
          rw [hkn, List.take_of_length_le (by have := hla.out; omega), List.take_of_length_le (by have := hlb.out; omega)] at h3
          rw [h3]
          simp
        subst HN
        go_wp2_with fail
        exact bodyPost_ret (results_slot rfl rfl) rfl ⟨rfl, rfl⟩
  · have HN : Hid (decide (la = lb) = false) := by
      show _ = _
      rw [decide_eq_false_iff_not]
      intro e
      exact hn (by rw [e])
    rw [HN.out]
    have hni : ¬ (la.length : Int) = (lb.length : Int) := by omega
    generalize la.length = n at *
    generalize lb.length = m at *
    clear HA HB
    go_enter Try.func21, Try.ntmps21
    go_wp2_with fail
    exact bodyPost_ret (results_slot rfl rfl) rfl ⟨rfl, rfl⟩
end Go.Proofs.Ytbheiglbejokmaa
