/- utf.All (layer 3): the iterator: which code points it tells. -/
import Derived.Test.YtcadklhjhjbhaaaDoorUtfB
import Derived.RangeFuncNested
import Derived.RangeFuncBound
import Derived.RangeFuncCalls
import Derived.RangeFuncLeaves
import Derived.RangeFuncFrom
import Derived.Shelf.Abstract
import Derived.Shelf.RegionOpen
import Derived.OwnWalkIn
import Derived.TacticsInMore
import Derived.LoopNIn
import Derived.LoopIn
namespace Go.Proofs.YtcadklhjhjbhaaaDoor
set_option maxRecDepth 20000
set_option linter.unusedSimpArgs false
set_option linter.unusedVariables false
open Go.RowKit Go.Lib Go.Shelf
attribute [local go_sem] Oper.semAt_some
theorem nx_nil : nx [] = none := rfl
theorem nx_pos {l : List UInt8} {n k : Nat} (h : nx l = some (n, k)) : 1 ≤ k ∧ k ≤ l.length ∧ k ≤ 4 := by
  obtain ⟨h1, h2, h3⟩ := nx_iff.1 h
  have := form_len_pos h1
  have := h2.length_le
  omega
theorem nx_lt {l : List UInt8} {a n k : Nat} (h : nx (l.drop a) = some (n, k)) : a + k ≤ l.length ∧ 1 ≤ k := by
  have h1 := nx_pos h
  rw [List.length_drop] at h1
  omega
/-- The code points from a place on, each with its place. -/
def cpsAt (l : List UInt8) (a : Nat) : List (Nat × Nat) :=
  match h : nx (l.drop a) with
  | none => []
  | some (n, k) => (a, n) :: cpsAt l (a + k)
termination_by l.length - a
decreasing_by
  have := nx_lt h
  omega
theorem cpsAt_none {l : List UInt8} {a : Nat} (h : nx (l.drop a) = none) : cpsAt l a = [] := by
  rw [cpsAt]
  split
  · rfl
  · rename_i h2; rw [h] at h2; cases h2
theorem cpsAt_some {l : List UInt8} {a n k : Nat} (h : nx (l.drop a) = some (n, k)) : cpsAt l a = (a, n) :: cpsAt l (a + k) := by
  rw [cpsAt]
  split
  · rename_i h2; rw [h] at h2; cases h2
  · rename_i h2; rw [h] at h2; cases h2; rfl
theorem nextV_nat (l : List UInt8) (a : Nat) : nextV l (a : Int) = nx (l.drop a) := by
  unfold nextV
  by_cases h : a < l.length
  · rw [if_pos ⟨by omega, by omega⟩, Int.toNat_natCast]
  · rw [if_neg (by omega), List.drop_eq_nil_of_le (by omega), nx_nil]
theorem cps_len : ∀ (d : Nat) (l : List UInt8) (a : Nat), l.length - a = d → (cpsAt l a).length ≤ l.length - a := by
  intro d
  induction d using Nat.strongRecOn with
  | ind d ih =>
    intro l a hd
    cases h : nx (l.drop a) with
    | none => rw [cpsAt_none h]; simp
    | some x =>
      obtain ⟨n, k⟩ := x
      have h1 := nx_lt h
      have := ih (l.length - (a + k)) (by omega) l (a + k) rfl
      rw [cpsAt_some h, List.length_cons]
      omega
abbrev Tabs (w : World) : Prop := Lib.Utf8Tabs (Tryd.lays197_ren.g 3) (Tryd.lays197_ren.g 4) w
theorem below_none {w w' : World} (h : Below w.heap.size w w') : w.grownBy w' none := ⟨h.os, h.tape, h.output, h.size, fun k hk _ => h.block k hk⟩
set_option maxRecDepth 100000 in
set_option maxHeartbeats 2000000 in
/-- The closure that All answers: for every loop body that keeps what lay below n₀. -/
theorem all1_in (n : Nat) (hn : 1 ≤ n) (l Bs n₀ : Nat) (s : ByteArray) (hs : s.size ≤ 100000) (Kp : World → World → Prop) (hK : ∀ A B, Kp A B → Below n₀ A B ∧ (A.cell? ⟨Bs, 0, none⟩ = some (.string s) → B.cell? ⟨Bs, 0, none⟩ = some (.string s))) (J Jx : List (Nat × Nat) → World → Prop) (hJa : ∀ pre W W', J pre W → Below W.heap.size W W' → J pre W')
    (hY : ∀ pre x W, J pre W → pre.length < s.size + 1 → pre ++ [x] <+: cpsAt s.data.toList 0 → YieldAt Fence.wide (n - 1) Tryd.prog l #[.int .i64 (x.1 : Int), .int .i32 (x.2 : Int)] W fun e W' =>
      (e = .returned (.bool true) ∧ J (pre ++ [x]) W' ∧ Kp W W') ∨ (e = .returned (.bool false) ∧ Jx (pre ++ [x]) W'))
    (W : World) (hn0 : n₀ ≤ W.heap.size) (hBs : W.cell? ⟨Bs, 0, none⟩ = some (.string s)) (hT : ∀ W', Below n₀ W W' → Tabs W') (h0 : J [] W) :
    CallsIn Fence.wide n Tryd.prog 62 #[.func (.yield l) #[] #[], .pointer (some ⟨Bs, 0, none⟩)] W fun e W' => (∃ v, e = .returned v) ∧
      ((∃ ys, ys = cpsAt s.data.toList 0 ∧ J ys W') ∨ (∃ pre, pre <+: cpsAt s.data.toList 0 ∧ Jx pre W')) := by
  have hsl : s.data.toList.length = s.size := (Lib.size_eq s).symm
  have hcl := cps_len _ s.data.toList 0 rfl
  refine callsIn_of_wp Tryd.func62 rfl trivial ?_ rfl
  simp only [Tryd.ntmps62, List.size_toArray, List.length_cons, List.length_nil, Nat.reduceAdd, Nat.reduceSub, Array.replicate_succ, Array.replicate_zero, List.push_toArray, List.append_toArray, List.nil_append, List.cons_append]
  gi_wp2
  gi_loopw [3] (fun p wr => ∃ (pre : List (Nat × Nat)) (a : Nat), p = .int .i64 (a : Int) ∧ a ≤ s.size ∧ cpsAt s.data.toList 0 = pre ++ cpsAt s.data.toList a ∧ J pre wr ∧ Below n₀ W wr ∧ wr.cell? ⟨Bs, 0, none⟩ = some (.string s))
    (fun p _ => s.size - (Go.RowKit.intOf p).toNat)
  case atStart => exact ⟨[], 0, rfl, by omega, rfl, h0, Below.refl _ _, hBs⟩
  case round =>
    obtain ⟨pre, a, rfl, ha, hx, hJs, hbe, cB⟩ := hrel
    have hBl : Bs < wr.heap.size := by
      apply Nat.lt_of_not_le
      intro hle
      simp [World.cell?, Array.getElem?_eq_none hle] at cB
    have KN := next_any s (a : Int) wr (hT wr hbe)
    rw [nextV_nat] at KN
    have hJb : ∀ W', Below wr.heap.size wr W' → J pre W' ∧ Below n₀ W W' := fun W' hb => ⟨hJa pre wr W' hJs hb, hbe.trans (hb.mono (Nat.le_trans hn0 hbe.size))⟩
    cases hn2 : nx (s.data.toList.drop a) with
    | none =>
      rw [hn2] at KN
      have KN2 : CallsIn (Fence.wide) (n - 1) Tryd.prog 63 #[.string s, .int .i64 (a : Int)] wr fun e w' => e = .returned (.tuple #[.int .i32 0, .int .i64 0, .bool false]) ∧ Below wr.heap.size wr w' := callsIn_wide.2 KN
      have hfin : cpsAt s.data.toList 0 = pre := by rw [hx, cpsAt_none hn2, List.append_nil]
      have HF := Lib.hid hfin
      have HJB := Lib.hid hJb
      clear hx hfin hJb KN hT hJa hY h0 hJs hbe
      gi_wp2
      refine ⟨trivial, KN2.mono ?_⟩
      rintro e w' ⟨rfl, hb⟩
      gi_wp2
      refine ⟨fun _ h => (by cases h), ?_⟩
      gi_wp2
      refine bodyPost_ret (results_none rfl _ _ _) rfl ?_
      exact ⟨⟨_, rfl⟩, .inl ⟨pre, HF.out.symm, (HJB.out w' hb).1⟩⟩
    | some x =>
      obtain ⟨c, k⟩ := x
      rw [hn2] at KN
      have KN2 : CallsIn (Fence.wide) (n - 1) Tryd.prog 63 #[.string s, .int .i64 (a : Int)] wr fun e w' => e = .returned (.tuple #[.int .i32 (c : Int), .int .i64 (k : Int), .bool true]) ∧ Below wr.heap.size wr w' := callsIn_wide.2 KN
      have hlt := nx_lt hn2
      rw [hsl] at hlt
      have hfin : cpsAt s.data.toList 0 = (pre ++ [(a, c)]) ++ cpsAt s.data.toList (a + k) := by rw [hx, cpsAt_some hn2, List.append_assoc]; rfl
      have hpl : pre.length < s.size + 1 := by
        have h1 := congrArg List.length hfin
        rw [List.length_append, List.length_append] at h1
        omega
      have HF := Lib.hid hfin
      have HJB := Lib.hid hJb
      have HY := Lib.hid hY
      clear hx hfin hJb KN hT hJa hY h0 hJs hbe
      gi_wp2
      refine ⟨trivial, KN2.mono ?_⟩
      rintro e w' ⟨rfl, hb⟩
      obtain ⟨hJ', hB'⟩ := HJB.out w' hb
      have cB' : w'.cell? ⟨Bs, 0, none⟩ = some (.string s) := (hb.cell (p := ⟨Bs, 0, none⟩) hBl).trans cB
      obtain ⟨fn, tmps, assign, body, hy, hR⟩ := HY.out pre (a, c) w' hJ' hpl ⟨_, HF.out.symm⟩
      dsimp only at hy
      have i1 : (a : Int) + (k : Int) = ((a + k : Nat) : Int) := by omega
      have HA := Lib.hid (show a + k ≤ s.size ∧ 1 ≤ k from hlt)
      have i2 : IntKind.i64.wrap ((a : Int) + (k : Int)) = (a : Int) + (k : Int) := IntWalk.i64_in _ (by omega)
      clear i1
      gi_wp2
      refine hR.mono ?_
      rintro e W3 (⟨rfl, hJ3, hk3⟩ | ⟨rfl, hJx3⟩)
      · gi_wp2
        go_roundw
        case rel => exact ⟨pre ++ [(a, c)], a + k, congrArg (Value.int .i64) (by omega), HA.out.1, HF.out, hJ3, hB'.trans (hK _ _ hk3).1, (hK _ _ hk3).2 cB'⟩
        case measure =>
          have := HA.out
          simp [Go.RowKit.intOf]
          omega
      · gi_wp2
        refine bodyPost_ret (results_none rfl _ _ _) rfl ?_
        exact ⟨⟨_, rfl⟩, .inr ⟨pre ++ [(a, c)], ⟨_, HF.out.symm⟩, hJx3⟩⟩
theorem all_any (s : ByteArray) (w : World) : Calls Tryd.prog 44 #[.string s] w fun e w' => e = .returned (.func (.func 62) #[] #[.pointer (some ⟨w.heap.size, 0, none⟩)]) ∧ w' = w.alloc (.cells #[.string s] 9) := by
  go_enter Tryd.func44, Tryd.ntmps44
  go_wp2_with fail
  go_ret
  exact ⟨rfl, rfl⟩
/-- What a round keeps: what lay below n₀, and the block that holds the text. -/
def KpV (n₀ Bs : Nat) (A B : World) : Prop := Below n₀ A B ∧ (Bs < A.heap.size → B.heap[Bs]? = A.heap[Bs]?)
theorem kpV_t {n₀ Bs : Nat} {A B C : World} (h : KpV n₀ Bs A B) (k : KpV n₀ Bs B C) : KpV n₀ Bs A C := ⟨h.1.trans k.1, fun hl => (k.2 (Nat.lt_of_lt_of_le hl h.1.size)).trans (h.2 hl)⟩
theorem kpV_b {n₀ Bs : Nat} {w : World} (hn : n₀ ≤ w.heap.size) (hB : Bs < w.heap.size) (W : World) (l : Nat) (o o' : Obj) (hl : w.heap.size ≤ l) (h : W.heap[l]? = some o) (h1 : o.isCells = false) (h2 : o.isWalk = false) : KpV n₀ Bs W (W.putObj l o') :=
  ⟨belowK_b hn W l o o' hl h h1 h2, fun hlt => (grownBy_putObj' W l o').block Bs hlt (by simp; omega)⟩
/-- The iterator's contract. -/
theorem all_stops (n : Nat) (hn : 1 ≤ n) (Bs n₀ : Nat) (s : ByteArray) (hs : s.size ≤ 100000) (w : World) (hn0 : n₀ ≤ w.heap.size) (hBs : w.cell? ⟨Bs, 0, none⟩ = some (.string s)) (hT : ∀ W', Below n₀ w W' → Tabs W') :
    SeqStopsK Fence.wide n Tryd.prog 62 #[.pointer (some ⟨Bs, 0, none⟩)] (fun x : Nat × Nat => #[Value.int .i64 (x.1 : Int), Value.int .i32 (x.2 : Int)]) (KpV n₀ Bs) (fun ys => ys = cpsAt s.data.toList 0) (fun pre => pre <+: cpsAt s.data.toList 0) (s.size + 1) w := fun l J Jx W hW hJ hJx hY h0 => by
  have hb : Below n₀ w W := hW.mono hn0
  have hlt : ∀ {A : World}, A.cell? ⟨Bs, 0, none⟩ = some (.string s) → Bs < A.heap.size := fun {A} h => by
    apply Nat.lt_of_not_le
    intro hle
    simp [World.cell?, Array.getElem?_eq_none hle] at h
  exact all1_in n hn l Bs n₀ s hs (KpV n₀ Bs) (fun A B h => ⟨h.1, fun hc => (World.cell?_of_block (w := A) (a := ⟨Bs, 0, none⟩) (h.2 (hlt hc))).trans hc⟩) J Jx (fun pre W1 W' h hbb => hJ pre W1 W' none h (below_none hbb) (fun r e => by cases e)) (fun pre x W1 h hl _ => hY pre x W1 h hl) W (Nat.le_trans hn0 hW.size)
    ((hW.cell (p := ⟨Bs, 0, none⟩) (hlt hBs)).trans hBs) (fun W' h => hT W' (hb.trans h)) h0
end Go.Proofs.YtcadklhjhjbhaaaDoor
