/- KeepGrows (layer 32). -/
import Derived.Test.YtbheiglbejokmaaKepP
namespace Go.Proofs.Ytbheiglbejokmaa
set_option maxRecDepth 20000
set_option linter.unusedSimpArgs false
set_option linter.unusedVariables false
open Go.RowKit Go.Sort Go.Lib Go.MapKept
theorem u8_natK (a : Int) (h : (Lit.int .u8 a).wf = true) : ∃ k : Nat, a = (k : Int) ∧ k < 256 := by
  have ha : 0 ≤ a ∧ a ≤ 255 := by simpa [Lit.wf, IntKind.min, IntKind.max, IntKind.signed, IntKind.bits] using h
  exact ⟨a.toNat, by omega, by omega⟩
theorem getD_mem (l : List ByteArray) (k : Nat) (h : k < l.length) : l.getD k ByteArray.empty ∈ l := by
  rw [List.getD_eq_getElem?_getD, List.getElem?_eq_getElem h]
  exact List.getElem_mem h
theorem fin_asc : ∀ mo : Bool, ((List.range 14).all fun p => decide ((selT all15 (ysT mo) 15).length ≤ p + 1) || Op.bytesLess ((selT all15 (ysT mo) 15).getD p ByteArray.empty).toList ((selT all15 (ysT mo) 15).getD (p + 1) ByteArray.empty).toList) = true := by decide +kernel
theorem top_asc {v : Int} (hv : verB v = true) (p : Nat) (h : p + 1 < (topL v).length) : Op.bytesLess ((topL v).getD p ByteArray.empty).toList ((topL v).getD (p + 1) ByteArray.empty).toList = true := by
  rw [topL_eq hv] at h ⊢
  have h15 := (fin_len (gF v)).1
  have h1 := List.all_eq_true.1 (fin_asc (gF v)) p (List.mem_range.2 (by omega))
  rw [Bool.or_eq_true, decide_eq_true_eq] at h1
  rcases h1 with h1 | h1
  · omega
  · exact h1
theorem keepGrows_walk (v : Int) (kind : ByteArray) (W : World) (wv : (Lit.int .u8 v).wf = true) (_wk : kind.size ≤ maxLen) :
    Calls Try.prog 6 #[.int .u8 v, .string kind] W fun e w' => e = .returned (.bool true) ∧ Below W.heap.size W w' := by
  obtain ⟨k, hk, hk2⟩ := u8_natK v wv
  have h1 : 1 ≤ 1 + v % 10 := by omega
  have h2 : 1 + v % 10 ≤ 10 := by omega
  obtain ⟨n, hn⟩ : ∃ n, 1 + v % 10 = n := ⟨_, rfl⟩
  rw [hn] at h1 h2
  exact grows_any W v n kind hn h1 h2 (by omega) (by omega) _ _ _ _ (decide (kind = kk_ali)) rfl rfl rfl rfl _ rfl (all_low h2 kind) (is_ali kind) (top_lens n h1 h2).1 (top_lens n h1 h2).2 (top_len _) (top_len _) (cont_len _ _) (cont_len _ _)
    (fun k hk => grow_in n h1 h2 kind _ (getD_mem _ k hk)) (fun k hk => top_in n h1 h2 _ (getD_mem _ k hk)) (fun p hp => top_asc (ver_in (by omega) (by omega)) p hp)
end Go.Proofs.Ytbheiglbejokmaa
