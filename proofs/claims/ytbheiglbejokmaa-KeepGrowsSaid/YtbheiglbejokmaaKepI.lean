/- The reference's some (layer 32). -/
import Derived.Test.YtbheiglbejokmaaKepH
namespace Go.Proofs.Ytbheiglbejokmaa
set_option maxRecDepth 20000
set_option linter.unusedSimpArgs false
set_option linter.unusedVariables false
open Go.RowKit Go.Sort Go.Lib Go.MapKept
attribute [local go_sem] Oper.semAt_some
/-- Those of the first k texts whose truth is told. -/
def selT (l : List ByteArray) (ys : List Bool) : Nat → List ByteArray
  | 0 => []
  | k + 1 => selT l ys k ++ (if ys.getD k false then [l.getD k ByteArray.empty] else [])
theorem selT_le (l : List ByteArray) (ys : List Bool) : ∀ k, (selT l ys k).length ≤ k
  | 0 => Nat.le_refl _
  | k + 1 => by
    have h := selT_le l ys k
    rw [selT]
    split <;> simp <;> omega
theorem ix_strs (b len cap i : Nat) (hi : i < len) (W : World) : (Instr.indexAt 22 (.slice (some ⟨b, 0, none⟩) len cap) (.int .i64 (i : Int))).run Try.prog W = .ok (.pointer (some ⟨b, i, none⟩)) W := by
  have h1 : (i : Int) < (len : Int) := by omega
  have e : (⟨b, 0, none⟩ : Addr).add i = ⟨b, i, none⟩ := by unfold Addr.add; split <;> simp_all
  go_simp
theorem row0_tx {w0 w : World} {v : Value} {n : Nat} {l : List ByteArray} {B : List Blk} (h : Row0 9 1 v n (vsT l) B) (hn : l.length = n) (hM : Mem w0 B w) : TxAt w v l := by
  rcases Nat.eq_zero_or_pos n with h0 | h0
  · subst h0
    have hl : l = [] := List.length_eq_zero_iff.1 hn
    subst hl
    generalize h1 : 0 = n at h
    generalize h2 : vsT [] = xs at h
    cases h with
    | nil => exact .inl ⟨rfl, rfl⟩
    | @own g cap n xs r hok =>
      subst h1 h2
      exact row_tx hok rfl (hM.get 0 rfl)
  · obtain ⟨q, cap, r, rfl, hok, rfl⟩ := row0_own h h0
    exact row_tx hok hn (hM.get 0 rfl)
theorem cellStrK : CellTy Try.prog 9 := ⟨⟨_, Try.underlying9, rfl⟩, by kernel_rfl⟩
set_option maxHeartbeats 2000000 in
theorem some_any (w : World) (g h n : Nat) (l : List ByteArray) (ys : List Bool) (hg : w.heap[g]? = some (.cells (vsT l ++ []).toArray 9 (0, 0))) (hh : w.heap[h]? = some (.cells (ys.map Value.bool).toArray 4 (0, 0))) (hl : l.length = n) (hy : ys.length = n) (hn : n ≤ 100) :
    Calls Try.prog 53 #[.slice (some ⟨g, 0, none⟩) n n, .slice (some ⟨h, 0, none⟩) n n] w fun e w' => ∃ x, e = .returned x ∧ TxAt w' x (selT l ys n) ∧ Below w.heap.size w w' := by
  obtain ⟨i1, hj, hy0, hy1, hy2⟩ := info_parts Try.info_str
  have HJ := Lib.hid (And.intro hj (And.intro hy0 (And.intro hy1 hy2)))
  have lg := (Array.getElem?_eq_some_iff.1 hg).1
  have lh := (Array.getElem?_eq_some_iff.1 hh).1
  have HG := Lib.hid hg
  have HH := Lib.hid hh
  have HL := Lib.hid hl
  have HY := Lib.hid hy
  clear hj hy0 hy1 hy2 hg hh hl hy
  go_enter Try.func53, Try.ntmps53
  go_upto_region 3 with fail
  go_loopw [5, 6] (fun v5 v6 wr => ∃ (k m : Nat) (B : List Blk), v6 = .int .i64 (k : Int) ∧ k ≤ n ∧ Hid (m = (selT l ys k).length) ∧ Hid (Row0 9 1 v5 m (vsT (selT l ys k)) B) ∧ Hid (Mem w B wr)) (fun _ v6 _ => n - (Go.RowKit.intOf v6).toNat)
  case atStart => exact ⟨0, 0, [], rfl, Nat.zero_le _, Lib.hid rfl, Lib.hid .nil, Lib.hid (Mem.start w)⟩
  case round =>
    obtain ⟨k, m, B, rfl, hk, HM, HR, HW⟩ := hrel
    have hle : m ≤ k := by rw [HM.out]; exact selT_le l ys k
    by_cases hlt : k < n
    · have b1b : decide ((k : Int) < (n : Int)) = true := decide_eq_true (by omega)
      have hlti : (k : Int) < n := by omega
      obtain ⟨y, ey⟩ : ∃ z, z = ys.getD k false := ⟨_, rfl⟩
      obtain ⟨s, es⟩ : ∃ z, z = l.getD k ByteArray.empty := ⟨_, rfl⟩
      have hch : wr.cell? ⟨h, k, none⟩ = some (.bool y) := by
        rw [cell_of_row wr h k _ _ _ ((HW.out.below.block h lh).trans HH.out), ey]
        simp [List.getD_eq_getElem?_getD, List.getElem?_eq_getElem (show k < ys.length by rw [HY.out]; exact hlt)]
      have hcg : ((vsT l ++ []).toArray : Array Value)[k]? = some (.string s) := by
        rw [es, List.append_nil]
        simp [vsT, List.getD_eq_getElem?_getD, List.getElem?_eq_getElem (show k < l.length by rw [HL.out]; exact hlt)]
      have HST : Hid (selT l ys (k + 1) = selT l ys k ++ (if y then [s] else [])) := Lib.hid (by rw [selT, ← ey, ← es])
      have hw1 : wrap64 ((k : Int) + 1) = ((k + 1 : Nat) : Int) := wrap_succ hlt (by unfold maxLen; omega)
      have HW1 := Lib.hid hw1
      have HCG := Lib.hid hcg
      clear ey es hw1 hcg
      cases y with
      | false =>
        go_wp2_with fail
        go_roundw
        case rel => exact ⟨k + 1, m, B, by go_num, by omega, Lib.hid (by rw [HST.out]; simpa using HM.out), Lib.hid (by rw [HST.out]; simpa using HR.out), HW⟩
        case measure => show n - ((k : Int) + 1).toNat < n - (k : Int).toNat; omega
      | true =>
        have hGr := Lib.hid ((HW.out.below.block g lg).trans HG.out)
        go_upto_region 6 with fail
        refine wp_region_lit ?_
        refine wl_pure (v := u5) (fun W => rfl) rfl ?_
        simp only [nm0, nm1, nm2, nm3]
        refine wl_pure (v := .slice (some ⟨g, 0, none⟩) n n) (fun W => rfl) rfl ?_
        simp only [nm0, nm1, nm2, nm3]
        refine wl_pure (v := .int .i64 (k : Int)) (fun W => rfl) rfl ?_
        simp only [nm0, nm1, nm2, nm3]
        refine wl_pure (v := .pointer (some ⟨g, k, none⟩)) (fun W => run_index_of rfl rfl rfl (ix_strs g n n k hlt W)) rfl ?_
        simp only [nm0, nm1, nm2, nm3]
        refine wl_val (v := .string s) (run_load_cell rfl rfl hGr.out HCG.out cellStrK) rfl ?_
        simp only [nm0, nm1, nm2, nm3]
        refine wl_new HW.out (f := fun b => .slice (some ⟨b, 0, none⟩) 1 1) (ob := .cells #[.string s] 9 (0, 0)) (fun W => run_slice_of rfl (by simp [Act.eval]; try rfl) (bs_str s W)) rfl fun bs W1 hW1 => ?_
        simp only [nm0, nm1, nm2, nm3]
        have hb1 := hW1.get 0 rfl
        have hW2 := hW1.perm (perm_one _ B).symm
        obtain ⟨hj, hy0, hy1, hy2⟩ := HJ.out
        refine wl_app (d := 23) rfl rfl hW2 HR.out rfl Try.underlying22 hj hy0 hy1 hy2 rfl (by decide) rfl (news := [.string s]) rfl (fun j u hu => news_at hb1 j u hu) (by decide) rfl (by simp [Value.oneCell']) (by unfold maxLen; omega) (by omega) fun v7 B7 W7 hR7 hM7 => ?_
        simp only [nm0, nm1, nm2, nm3]
        refine wl_pure (v := v7) (fun W => rfl) rfl ?_
        simp only [nm0, nm1, nm2, nm3]
        refine wpList_nil ?_
        have HR7 : Hid (Row0 9 1 v7 (m + 1) (vsT (selT l ys (k + 1))) B7) := Lib.hid (by rw [HST.out, if_pos rfl, vsT_app]; exact hR7)
        have HM7 : Hid (Mem w B7 W7) := Lib.hid (hM7.perm (perm_one _ B7)).tail
        have HMM : Hid (m + 1 = (selT l ys (k + 1)).length) := Lib.hid (by rw [HST.out, if_pos rfl, List.length_append, ← HM.out]; rfl)
        clear hR7 hM7 hW2 hb1 hW1 hj hy0 hy1 hy2 hch
        go_wp2_with fail
        go_roundw
        case rel => exact ⟨k + 1, m + 1, B7, by go_num, by omega, HMM, HR7, HM7⟩
        case measure => show n - ((k : Int) + 1).toNat < n - (k : Int).toNat; omega
    · have b1b : decide ((k : Int) < (n : Int)) = false := decide_eq_false (by omega)
      have hkn : k = n := by omega
      subst hkn
      have HX := Lib.hid (row0_tx HR.out HM.out.symm HW.out)
      have HB := Lib.hid HW.out.below
      clear HR HM HW
      go_wp2_with fail
      exact bodyPost_ret (results_slot rfl rfl) rfl ⟨_, rfl, HX.out, HB.out⟩
end Go.Proofs.Ytbheiglbejokmaa
