/- What KeepGrows says of the lists (layer 32). -/
import Derived.Test.YtbheiglbejokmaaKepN
namespace Go.Proofs.Ytbheiglbejokmaa
set_option maxRecDepth 20000
set_option linter.unusedSimpArgs false
set_option linter.unusedVariables false
open Go.RowKit Go.Sort Go.Lib Go.MapKept
theorem mem_srt {x : ByteArray} {l : List ByteArray} : x ∈ srt l ↔ x ∈ l := by
  unfold srt
  rw [List.mem_map]
  constructor
  · rintro ⟨a, ha, rfl⟩
    rw [List.mem_mergeSort, List.mem_map] at ha
    obtain ⟨b, hb, rfl⟩ := ha
    rw [lb_bl]
    exact hb
  · intro h
    exact ⟨bl x, by rw [List.mem_mergeSort]; exact List.mem_map_of_mem h, lb_bl x⟩
def keptV (v : Int) : List (ByteArray × List ByteArray) := keptL (gD v) (gC v) (gE v) (gF v)
def kkeys : List ByteArray := [kk_mem, kk_cre, kk_rul, kk_lev, kk_ali, kk_his, kk_red]
theorem fin_grow : ((List.range 10).all fun i => kkeys.all fun k => (look (keptV ((i : Int) + 1)) k).all fun x => (allB ((i : Int) + 1 + 1) k || decide (k = kk_ali)) || (look (keptV ((i : Int) + 1 + 1)) k).any fun y => decide (x = y)) = true := by decide +kernel
theorem gF_low {n : Int} (h : n ≤ 10) : gF n = false := by
  unfold gF
  rw [decide_eq_false_iff_not]
  omega
theorem all_low {n : Int} (h : n ≤ 10) (kind : ByteArray) : allB n kind = false := by simp [allB, gF_low h]
theorem ver_in {n : Int} (h1 : 1 ≤ n) (h2 : n ≤ 11) : verB n = true := decide_eq_true ⟨h1, h2⟩
theorem look_out (v : Int) (kind : ByteArray) (h : ∀ k ∈ kkeys, k ≠ kind) : look (keptV v) kind = [] := by
  refine look_new _ _ fun p hp hk => ?_
  have h1 := List.all_eq_true.1 (fin_keys (gD v) (gC v) (gE v) (gF v)) p hp
  rw [List.any_eq_true] at h1
  obtain ⟨k, hkm, hke⟩ := h1
  exact h k hkm ((of_decide_eq_true hke).symm.trans hk)
theorem grow_in (n : Int) (h1 : 1 ≤ n) (h2 : n ≤ 10) (kind x : ByteArray) (hx : x ∈ contL n kind) : ((allB (n + 1) kind || decide (kind = kk_ali)) || (contL (n + 1) kind).any fun y => decide (x = y)) = true := by
  rw [contL, ver_in h1 (by omega), if_pos rfl, all_low h2, if_neg (by simp), mem_srt] at hx
  have hx : x ∈ look (keptV n) kind := hx
  rcases hA : allB (n + 1) kind with _ | _
  · rw [contL, ver_in (by omega) (by omega), if_pos rfl, hA, if_neg (by simp)]
    by_cases hk : ∃ k ∈ kkeys, k = kind
    · obtain ⟨k, hkm, rfl⟩ := hk
      obtain ⟨i, rfl⟩ : ∃ i : Nat, n = (i : Int) + 1 := ⟨(n - 1).toNat, by omega⟩
      have h3 := List.all_eq_true.1 fin_grow i (List.mem_range.2 (by omega))
      have h4 := List.all_eq_true.1 (List.all_eq_true.1 h3 k hkm) x hx
      rw [hA] at h4
      rw [Bool.or_eq_true] at h4 ⊢
      rcases h4 with h4 | h4
      · exact .inl h4
      · refine .inr ?_
        rw [List.any_eq_true] at h4 ⊢
        obtain ⟨y, hy, hxy⟩ := h4
        exact ⟨y, mem_srt.2 hy, hxy⟩
    · rw [look_out n kind fun k hkm hke => hk ⟨k, hkm, hke⟩] at hx
      cases hx
  · simp
theorem topL_eq {v : Int} (hv : verB v = true) : topL v = selT all15 (ysT (gF v)) 15 := by
  rw [topL, hv, if_pos rfl]
  exact srt_of (fin_top (gF v))
theorem top_low {n : Int} (h1 : 1 ≤ n) (h2 : n ≤ 10) : topL n = all15 := by
  rw [topL_eq (ver_in h1 (by omega)), gF_low h2]
  decide +kernel
theorem fin_top2 : ∀ mo : Bool, ((selT all15 (ysT mo) 15).all fun x => all15.any fun y => decide (x = y)) = true := by decide +kernel
theorem top_in (n : Int) (h1 : 1 ≤ n) (h2 : n ≤ 10) (x : ByteArray) (hx : x ∈ topL (n + 1)) : ((topL n).any fun y => decide (x = y)) = true := by
  rw [topL_eq (ver_in (by omega) (by omega))] at hx
  rw [top_low h1 h2]
  exact List.all_eq_true.1 (fin_top2 _) x hx
theorem fin_len : ∀ mo : Bool, (selT all15 (ysT mo) 15).length ≤ 15 ∧ 0 < (selT all15 (ysT mo) 15).length := by decide +kernel
theorem top_lens (n : Int) (h1 : 1 ≤ n) (h2 : n ≤ 10) : (topL (n + 1)).length ≤ (topL n).length ∧ 0 < (topL (n + 1)).length := by
  rw [topL_eq (ver_in (by omega) (by omega)), top_low h1 h2]
  exact fin_len _
end Go.Proofs.Ytbheiglbejokmaa
