/- What version.Of, version.Alike and the reference's Of tell: contracts of the functions of layer 26. -/
import Derived.Test.YtbheiglbejokmaaAid
namespace Go.Proofs.Ytbheiglbejokmaa
set_option maxRecDepth 20000
set_option linter.unusedSimpArgs false
set_option linter.unusedVariables false
open Go.RowKit
theorem vof_in (v : Int) (w : World) (h0 : 1 ≤ v) (h1 : v ≤ 11) :
    Calls Try.prog 49 #[.int .i64 v] w fun e w' =>
      e = .returned (.tuple #[.agg #[.bool (decide (v ≤ 2)), .bool (decide (v ≤ 2)), .bool (decide (4 ≤ v)), .bool (decide (v ≤ 5)), .bool (decide (8 ≤ v)), .bool (decide (9 ≤ v)), .bool (decide (11 ≤ v))], .int .i64 0]) ∧ w.alloc (.cells #[.bool (decide (v ≤ 2)), .bool (decide (v ≤ 2)), .bool (decide (4 ≤ v)), .bool (decide (v ≤ 5)), .bool (decide (8 ≤ v)), .bool (decide (9 ≤ v)), .bool (decide (11 ≤ v))] 80) = w' := by
  go_enter Try.func49, Try.ntmps49
  go_wp2
  exact bodyPost_ret (v := .tuple #[.agg #[.bool (decide (v ≤ 2)), .bool (decide (v ≤ 2)), .bool (decide (4 ≤ v)), .bool (decide (v ≤ 5)), .bool (decide (8 ≤ v)), .bool (decide (9 ≤ v)), .bool (decide (11 ≤ v))], .int .i64 0]) (by simp [results, Try.results49, go_sem]) rfl ⟨rfl, rfl⟩
theorem vof_out (v : Int) (w : World) (h : v < 1 ∨ 11 < v) :
    Calls Try.prog 49 #[.int .i64 v] w fun e w' => e = .returned (.tuple #[.agg #[.bool false, .bool false, .bool false, .bool false, .bool false, .bool false, .bool false], .int .i64 24]) ∧ w.alloc (.cells #[.bool false, .bool false, .bool false, .bool false, .bool false, .bool false, .bool false] 80) = w' := by
  rcases h with h | h
  · go_enter Try.func49, Try.ntmps49
    go_wp2
    exact bodyPost_ret (v := .tuple #[.agg #[.bool false, .bool false, .bool false, .bool false, .bool false, .bool false, .bool false], .int .i64 24]) (by simp [results, Try.results49, go_sem]) rfl ⟨rfl, rfl⟩
  · have h' : ¬ v < 1 := by omega
    go_enter Try.func49, Try.ntmps49
    go_wp2
    exact bodyPost_ret (v := .tuple #[.agg #[.bool false, .bool false, .bool false, .bool false, .bool false, .bool false, .bool false], .int .i64 24]) (by simp [results, Try.results49, go_sem]) rfl ⟨rfl, rfl⟩
/-- What is true of a version; of what is no version, nothing. -/
def gA (v : Int) : Bool := decide (1 ≤ v ∧ v ≤ 2)
def gB (v : Int) : Bool := decide (4 ≤ v ∧ v ≤ 11)
def gC (v : Int) : Bool := decide (1 ≤ v ∧ v ≤ 5)
def gD (v : Int) : Bool := decide (8 ≤ v ∧ v ≤ 11)
def gE (v : Int) : Bool := decide (9 ≤ v ∧ v ≤ 11)
def gF (v : Int) : Bool := decide (v = 11)
def ev (v : Int) : Int := if 1 ≤ v ∧ v ≤ 11 then 0 else 24
theorem g_in (v : Int) (h0 : 1 ≤ v) (h1 : v ≤ 11) : decide (v ≤ 2) = gA v ∧ decide (4 ≤ v) = gB v ∧ decide (v ≤ 5) = gC v ∧ decide (8 ≤ v) = gD v ∧ decide (9 ≤ v) = gE v ∧ decide (11 ≤ v) = gF v ∧ ev v = 0 := by
  unfold gA gB gC gD gE gF ev
  refine ⟨?_, ?_, ?_, ?_, ?_, ?_, if_pos ⟨h0, h1⟩⟩ <;> (rw [decide_eq_decide]; omega)
theorem g_out (v : Int) (h : v < 1 ∨ 11 < v) : gA v = false ∧ gB v = false ∧ gC v = false ∧ gD v = false ∧ gE v = false ∧ gF v = false ∧ ev v = 24 := by
  unfold gA gB gC gD gE gF ev
  refine ⟨?_, ?_, ?_, ?_, ?_, ?_, if_neg (by omega)⟩ <;> (rw [decide_eq_false_iff_not]; omega)
/-- version.Of, of any number. -/
theorem vof_any (v : Int) (w : World) :
    Calls Try.prog 49 #[.int .i64 v] w fun e w' => e = .returned (.tuple #[.agg #[.bool (gA v), .bool (gA v), .bool (gB v), .bool (gC v), .bool (gD v), .bool (gE v), .bool (gF v)], .int .i64 (ev v)]) ∧ w.alloc (.cells #[.bool (gA v), .bool (gA v), .bool (gB v), .bool (gC v), .bool (gD v), .bool (gE v), .bool (gF v)] 80) = w' := by
  by_cases h : 1 ≤ v ∧ v ≤ 11
  · obtain ⟨e1, e2, e3, e4, e5, e6, e7⟩ := g_in v h.1 h.2
    rw [← e1, ← e2, ← e3, ← e4, ← e5, ← e6, e7]
    exact vof_in v w h.1 h.2
  · obtain ⟨e1, e2, e3, e4, e5, e6, e7⟩ := g_out v (by omega)
    rw [e1, e2, e3, e4, e5, e6, e7]
    exact vof_out v w (by omega)
theorem rof_in (v : Int) (w : World) (h0 : 1 ≤ v) (h1 : v ≤ 11) :
    Calls Try.prog 51 #[.int .i64 v] w fun e w' => e = .returned (.tuple #[.slice (some ⟨w.heap.size, 0, none⟩) 7 7, .bool true]) ∧
      w.alloc (.cells #[.bool (decide (v ≤ 2)), .bool (decide (v ≤ 2)), .bool (decide (4 ≤ v)), .bool (decide (v ≤ 5)), .bool (decide (8 ≤ v)), .bool (decide (9 ≤ v)), .bool (decide (11 ≤ v))] 4) = w' := by
  go_enter Try.func51, Try.ntmps51
  go_wp2
  go_ret2
  exact ⟨rfl, rfl⟩
theorem rof_out (v : Int) (w : World) (h : v < 1 ∨ 11 < v) :
    Calls Try.prog 51 #[.int .i64 v] w fun e w' => e = .returned (.tuple #[.slice none 0 0, .bool false]) ∧ w = w' := by
  rcases h with h | h
  · go_enter Try.func51, Try.ntmps51
    go_wp2
    go_ret2
    exact ⟨rfl, rfl⟩
  · have h' : ¬ v < 1 := by omega
    go_enter Try.func51, Try.ntmps51
    go_wp2
    go_ret2
    exact ⟨rfl, rfl⟩
/-- Two values of type Rules are the same if all their fields are. -/
theorem eql_rules (w : World) (p1 p2 p3 p4 p5 p6 p7 q1 q2 q3 q4 q5 q6 q7 : Bool) :
    (binOp .eql 80 (.agg #[.bool p1, .bool p2, .bool p3, .bool p4, .bool p5, .bool p6, .bool p7]) (.agg #[.bool q1, .bool q2, .bool q3, .bool q4, .bool q5, .bool q6, .bool q7])).run Try.prog w =
      .ok (.bool (p1 == q1 && (p2 == q2 && (p3 == q3 && (p4 == q4 && (p5 == q5 && (p6 == q6 && p7 == q7))))))) w := by
  go_simp
  (repeat' split) <;> simp_all
theorem neq_rules (w : World) (p1 p2 p3 p4 p5 p6 p7 q1 q2 q3 q4 q5 q6 q7 : Bool) :
    (binOp .neq 80 (.agg #[.bool p1, .bool p2, .bool p3, .bool p4, .bool p5, .bool p6, .bool p7]) (.agg #[.bool q1, .bool q2, .bool q3, .bool q4, .bool q5, .bool q6, .bool q7])).run Try.prog w =
      .ok (.bool (!(p1 == q1 && (p2 == q2 && (p3 == q3 && (p4 == q4 && (p5 == q5 && (p6 == q6 && p7 == q7)))))))) w := by
  go_simp
  (repeat' split) <;> simp_all
/-- Two versions have the same of their own. -/
def sameB (v z : Int) : Bool := gA v == gA z && (gB v == gB z && (gC v == gC z && (gD v == gD z && (gE v == gE z && gF v == gF z))))
end Go.Proofs.Ytbheiglbejokmaa
