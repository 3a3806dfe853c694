/- host (layer 27): just, with a function and what it captures. -/
import Derived.Test.YtdnkpclpcelbaaaDoorHosB
import Derived.Test.YtdnkpclpcelbaaaDoorRny
import Derived.Deep.Cut
namespace Go.Proofs.YtdnkpclpcelbaaaDoor
set_option maxRecDepth 20000
set_option linter.unusedSimpArgs false
set_option linter.unusedVariables false
open Go.RowKit Go.Lib Go.Shelf
attribute [local go_sem] Oper.semAt_some
section
variable {P : Program} {w w0 : World} {ops : Array Oper} {Q : Exit → Act → World → Prop} {o : Oper} {rest : List Oper} {A : Act}
/-- A call whose answer is only known to be there. -/
theorem wl_callE {f : FuncId} {args : Array Value} {R : Ending → World → Prop} (h : ∀ W, (execOp A.eval o).run P W = .ok (.enter f args) W) (hc : Calls P f args w R) (hgd : Region.wanted o (yielded ops A.tmps) = true) (hr : ∀ e w', R e w' → ∃ v, e = .returned v ∧ wpList P ops Q rest (A.put o.dst v) w') : wpList P ops Q (o :: rest) A w := by
  refine wpList_step fun K hK => ?_
  rw [if_pos hgd]
  unfold Oper.wp
  rw [h]
  exact hc.mono fun e w' he => by
    obtain ⟨v, rfl, hv⟩ := hr e w' he
    exact hK _ _ hv
theorem app_l (a b : Array Value) : #[] ++ a ++ b = a ++ b := by simp
end
theorem byte_at {s : ByteArray} {i : Nat} (hi : i < s.size) : s.data.toList.getD i 0 ∈ s.data.toList := by
  have hl : i < s.data.toList.length := by rw [Array.length_toList]; exact hi
  rw [List.getD_eq_getElem?_getD, List.getElem?_eq_getElem hl]
  exact List.getElem_mem _
theorem allG_at {g : Nat → Bool} {s : ByteArray} (h : allG g s = true) {i : Nat} (hi : i < s.size) : g (gb s i) = true :=
  List.all_eq_true.1 h _ (byte_at hi)
theorem allG_of {g : Nat → Bool} {s : ByteArray} (h : ∀ i, i < s.size → g (gb s i) = true) : allG g s = true := by
  refine List.all_eq_true.2 fun c hc => ?_
  obtain ⟨i, hi, rfl⟩ := List.getElem_of_mem hc
  have hi2 : i < s.size := by rw [Array.length_toList] at hi; exact hi
  have := h i hi2
  rw [← gb_at s i hi2] at this
  exact this
theorem allG_no {g : Nat → Bool} {s : ByteArray} {i : Nat} (hi : i < s.size) (h : g (gb s i) = false) : allG g s = false := by
  cases e : allG g s with
  | false => rfl
  | true => rw [allG_at e hi] at h; exact h
set_option maxHeartbeats 4000000 in
theorem just_any (s : ByteArray) (f : FuncId) (cap : Array Value) (g : Nat → Bool) (w : World) (hs : s.size ≤ 140737488355328) (hE : Enters Tryd.prog f)
    (hf : ∀ c : Nat, c < 256 → Calls Tryd.prog f (#[.int .u8 (c : Int)] ++ cap) w fun e w' => e = .returned (.bool (g c)) ∧ w = w') :
    Calls Tryd.prog 65 #[.string s, .func (.func f) #[] cap] w fun e w' => e = .returned (.bool (allG g s)) ∧ w = w' := by
  obtain ⟨r, hr⟩ : ∃ r, allG g s = r := ⟨_, rfl⟩
  rw [hr]
  have HR := Lib.hid hr
  clear hr
  go_enter Tryd.func65, Tryd.ntmps65
  go_wp2_with fail
  go_loop [8] (fun p => ∃ k : Nat, p = .int .i64 (k : Int) ∧ k ≤ s.size ∧ ∀ i, i < k → g (gb s i) = true) (fun p => s.size - (Go.RowKit.intOf p).toNat)
  case atStart => exact ⟨0, rfl, by omega, fun i h => by omega⟩
  case round =>
    obtain ⟨k, rfl, hk, hb⟩ := hrel
    by_cases hlt : k < s.size
    · have p1 : (k : Int) < (s.size : Int) := by omega
      obtain ⟨c, hc⟩ : ∃ c, gb s k = c := ⟨_, rfl⟩
      have hcl : c < 256 := by rw [← hc]; exact gb_lt s k
      have gk := (gb_at s k hlt).trans hc
      have hck : s[k]? = some (s[k]'hlt) := by simp [hlt]
      have w1 : IntKind.i64.wrap ((k : Int) + 1) = (k : Int) + 1 := IntWalk.i64_in _ (by omega)
      have KF := hf c hcl
      generalize eal : (#[.int .u8 (c : Int)] ++ cap : Array Value) = al at KF
      obtain ⟨y, ey⟩ : ∃ y, g c = y := ⟨_, rfl⟩
      rw [ey] at KF
      have HB := Lib.hid hb
      have HC := Lib.hid hc
      have HY := Lib.hid ey
      clear hb hc hf ey
      go_upto_region 4 with fail
      refine wp_region_lit ?_
      refine wl_pure (v := .func (.func f) #[] cap) (fun W => rfl) rfl ?_
      simp only [nm0, nm1, nm2, nm3]
      refine wl_pure (v := .string s) (fun W => rfl) rfl ?_
      simp only [nm0, nm1, nm2, nm3]
      refine wl_pure (v := .int .i64 (k : Int)) (fun W => rfl) rfl ?_
      simp only [nm0, nm1, nm2, nm3]
      refine wl_pure (v := .int .u8 (c : Int)) (fun W => (run_idx_str W rfl rfl rfl Tryd.underlying9 hck).trans (by rw [← gk])) rfl ?_
      simp only [nm0, nm1, nm2, nm3]
      refine wl_callE (args := al) (fun W => run_call_dyn W hE rfl rfl (by simp [Act.eval]) ((app_l _ _).trans eal)) KF rfl ?_
      rintro e w' ⟨rfl, rfl⟩
      refine ⟨_, rfl, ?_⟩
      simp only [nm0, nm1, nm2, nm3]
      refine wl_pure (v := .bool (!y)) (fun W => rfl) rfl ?_
      simp only [nm0, nm1, nm2, nm3]
      refine wpList_nil ?_
      cases y with
      | true =>
        go_wp2_with fail
        go_round
        case rel => exact ⟨k + 1, congrArg (Value.int .i64) (by omega), hlt, fun i hi => by
          by_cases h : i < k
          · exact HB.out i h
          · rw [show i = k by omega, HC.out]; exact HY.out⟩
        case measure => simp [Go.RowKit.intOf]; omega
      | false =>
        go_wp2_with fail
        go_ret
        exact ⟨ret_bool (by rw [← HR.out]; exact (allG_no hlt (by rw [HC.out]; exact HY.out)).symm), rfl⟩
    · have p1 : ¬ (k : Int) < (s.size : Int) := by omega
      have HB := Lib.hid hb
      clear hb hf
      go_wp2_with fail
      go_ret
      exact ⟨ret_bool (by rw [← HR.out]; exact (allG_of fun i hi => HB.out i (by omega)).symm), rfl⟩
end Go.Proofs.YtdnkpclpcelbaaaDoor
