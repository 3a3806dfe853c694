/- power.told.or, power.ask, power.within (layer 57). -/
import Derived.Test.YtbheiglbejokmaaPowA
namespace Go.Proofs.Ytbheiglbejokmaa
set_option maxRecDepth 20000
set_option linter.unusedSimpArgs false
set_option linter.unusedVariables false
open Go.RowKit Go.Sort Go.Lib Go.Shelf
attribute [local go_sem] Oper.semAt_some
set_option maxRecDepth 100000 in
set_option maxHeartbeats 1000000 in
theorem or_any (w : World) (is : Bool) (lv d : Int) :
    Calls Try.prog 57 #[.agg #[.bool is, .int .i64 lv], .int .i64 d] w fun e w' => e = .returned (.int .i64 (if is = false ∧ lv = 0 then d else lv)) ∧ Below w.heap.size w w' := by
  obtain ⟨r, er⟩ : ∃ z, z = (if is = false ∧ lv = 0 then d else lv) := ⟨_, rfl⟩
  rw [← er]
  have hM0 := (Mem.start w).new1 (.cells #[.bool is, .int .i64 lv] 95 (0, 0))
  have HB := Lib.hid hM0.below
  clear hM0
  cases is with
  | true =>
    have hr : r = lv := by rw [er]; simp
    clear er
    go_enter Try.func57, Try.ntmps57
    go_wp2_with fail
    rw [hr]
    exact bodyPost_ret (results_slot rfl rfl) rfl ⟨rfl, HB.out⟩
  | false =>
    by_cases h0 : lv = 0
    · subst h0
      have hr : r = d := by rw [er]; simp
      clear er
      go_enter Try.func57, Try.ntmps57
      go_wp2_with fail
      rw [hr]
      exact bodyPost_ret (results_slot rfl rfl) rfl ⟨rfl, HB.out⟩
    · have hr : r = lv := by rw [er]; simp [h0]
      have h0b : (lv == 0) = false := by simpa using h0
      clear er
      go_enter Try.func57, Try.ntmps57
      go_wp2_with fail
      rw [hr]
      exact bodyPost_ret (results_slot rfl rfl) rfl ⟨rfl, HB.out⟩
set_option maxRecDepth 100000 in
set_option maxHeartbeats 1000000 in
/-- power.ask: the function, and the block that it holds. -/
theorem ask_any (w : World) (cs : List Value) (N : Nd) (h : IsNd w cs N) :
    Calls Try.prog 54 #[.agg cs.toArray] w fun e w' => ∃ g, e = .returned (.func (.func 69) #[] #[.pointer (some ⟨g, 0, none⟩)]) ∧ w'.heap[g]? = some (.cells cs.toArray 25 (0, 0)) ∧ w.heap.size ≤ g ∧ Below w.heap.size w w' := by
  cases h with
  | @mk kind n s ks ls ak lk ck al ll cl kid hkind hn hs hk hl hlm hrow hkids =>
    clear hkids hrow hk hkind hn hs
    have hM0 := (Mem.start w).new1 (.cells #[.int .i64 kind, .int .i64 n, .string s, .slice ak lk ck, .slice al ll cl] 25 (0, 0))
    have HM := Lib.hid hM0
    clear hM0
    go_enter Try.func54, Try.ntmps54
    go_wp2_with fail
    exact bodyPost_ret (results_slot rfl rfl) rfl ⟨w.heap.size, rfl, HM.out.get 0 rfl, Nat.le_refl _, HM.out.below⟩
end Go.Proofs.Ytbheiglbejokmaa
