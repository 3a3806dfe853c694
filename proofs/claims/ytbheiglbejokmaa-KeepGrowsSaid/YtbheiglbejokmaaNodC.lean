/- tree.entries (layer 7): the iterator over a node's keys and values. -/
import Derived.Test.YtbheiglbejokmaaNodB
import Derived.RangeFuncNested
import Derived.RangeFuncBound
import Derived.RangeFuncCalls
import Derived.RangeFuncLeaves
import Derived.RangeFuncFrom
import Derived.Shelf.Abstract
import Derived.Shelf.RegionOpen
import Derived.OwnWalkIn
import Derived.TacticsInMore
import Derived.LoopNIn
import Derived.LoopIn
import Derived.Sort.BigQuietIn
namespace Go.Proofs.Ytbheiglbejokmaa
set_option maxRecDepth 20000
set_option linter.unusedSimpArgs false
set_option linter.unusedVariables false
open Go.RowKit Go.Sort Go.Lib Go.Shelf
attribute [local go_sem] Oper.semAt_some
theorem entries_any (w : World) (cs : List Value) (N : Nd) (h : IsNd w cs N) : Calls Try.prog 64 #[.agg cs.toArray] w fun e w' => e = .returned (.func (.func 70) #[] #[.pointer (some ⟨w.heap.size, 0, none⟩)]) ∧ w' = w.alloc (.cells cs.toArray 25 (0, 0)) := by
  cases h
  go_enter Try.func64, Try.ntmps64
  go_wp2_with fail
  go_ret
  exact ⟨rfl, rfl⟩
theorem range_pre {k m : Nat} (h : k < m) : List.range (k + 1) <+: List.range m := by
  refine List.prefix_iff_eq_take.2 ?_
  rw [List.length_range, List.take_range, Nat.min_eq_left h]
theorem two_ends {e : Ending} {A B : Prop} (h : (e = .returned (.bool true) ∧ A) ∨ (e = .returned (.bool false) ∧ B)) : ∃ b, e = .returned (.bool b) ∧ ((b = true ∧ A) ∨ (b = false ∧ B)) := by
  rcases h with ⟨h1, h2⟩ | ⟨h1, h2⟩
  · exact ⟨true, h1, .inl ⟨rfl, h2⟩⟩
  · exact ⟨false, h1, .inr ⟨rfl, h2⟩⟩
set_option maxRecDepth 100000 in
set_option maxHeartbeats 2000000 in
theorem ent1_in (n : Nat) (hn : 1 ≤ n) (l Bs : Nat) (w0 : World) {kind num : Int} {s : ByteArray} {ks : List ByteArray} {ak : Option Addr} {lk ck : Nat} {al : Option Addr} {ll cl : Nat} {kid : Nat → List Value} (hk : IsStrs w0 ak lk ks) (hrow : RowAt w0 al ll 5 kid) (hlm : ll ≤ maxLen) (hlit : ∀ i, i < ll → ∃ N, IsNd w0 (kid i) N)
    (Kp : World → World → Prop) (hK : ∀ A B, Kp A B → Below w0.heap.size A B ∧ (Bs < A.heap.size → B.heap[Bs]? = A.heap[Bs]?)) (J Jx : List Nat → World → Prop) (hJa : ∀ pre W W', J pre W → Below W.heap.size W W' → J pre W')
    (hY : ∀ pre x W, J pre W → pre.length < min lk ll → YieldAt Fence.wide (n - 1) Try.prog l #[.string (ks.getD x ByteArray.empty), .agg (kid x).toArray] W fun e W' =>
      (e = .returned (.bool true) ∧ J (pre ++ [x]) W' ∧ Kp W W') ∨ (e = .returned (.bool false) ∧ Jx (pre ++ [x]) W'))
    (W : World) (hW : Below w0.heap.size w0 W) (hBs : W.heap[Bs]? = some (.cells #[.int .i64 kind, .int .i64 num, .string s, .slice ak lk ck, .slice al ll cl] 25 (0, 0))) (h0 : J [] W) :
    CallsIn Fence.wide n Try.prog 70 #[.func (.yield l) #[] #[], .pointer (some ⟨Bs, 0, none⟩)] W fun e W' => (∃ v, e = .returned v) ∧
      ((∃ ys, ys = List.range (min lk ll) ∧ J ys W') ∨ (∃ pre, pre <+: List.range (min lk ll) ∧ Jx pre W')) := by
  obtain ⟨hkl, hkm, _, hkr⟩ := hk
  have q3 := cell_of_row W Bs 3 _ _ _ hBs
  have q4 := cell_of_row W Bs 4 _ _ _ hBs
  simp only [List.getElem?_toArray, List.getElem?_cons_zero, List.getElem?_cons_succ] at q3 q4
  obtain ⟨m, hm⟩ : ∃ m, m = min lk ll := ⟨_, rfl⟩
  have hmi : min (lk : Int) (ll : Int) = (m : Int) := by omega
  rw [← hm] at hY ⊢
  refine callsIn_of_wp Try.func70 rfl trivial ?_ rfl
  simp only [Try.ntmps70, List.size_toArray, List.length_cons, List.length_nil, Nat.reduceAdd, Nat.reduceSub, Array.replicate_succ, Array.replicate_zero, List.push_toArray, List.append_toArray, List.nil_append, List.cons_append]
  rcases Nat.lt_or_ge ll lk with c0 | c0
  · have em : m = ll := by omega
    have c2 : ¬ lk ≤ ll := by omega
    have hmm : m ≤ maxLen := by omega
    subst em
    clear hm
    gi_wp2
    gi_loopw [11] (fun v wr => ∃ k : Nat, k ≤ m ∧ v = .int .i64 (k : Int) ∧ J (List.range k) wr ∧ Below w0.heap.size w0 wr ∧ wr.heap[Bs]? = some (.cells #[.int .i64 kind, .int .i64 num, .string s, .slice ak lk ck, .slice al m cl] 25 (0, 0))) (fun v _ => m - (Go.RowKit.intOf v).toNat)
    case atStart => exact ⟨0, Nat.zero_le _, rfl, h0, hW, hBs⟩
    case round =>
      obtain ⟨k, hk0, rfl, hJ, hbe, hB⟩ := hrel
      have r3 := cell_of_row wr Bs 3 _ _ _ hB
      have r4 := cell_of_row wr Bs 4 _ _ _ hB
      simp only [List.getElem?_toArray, List.getElem?_cons_zero, List.getElem?_cons_succ] at r3 r4
      have HB := Lib.hid hB
      have HJ := Lib.hid hJ
      have HBE := Lib.hid hbe
      have HY := Lib.hid hY
      have HKp := Lib.hid hK
      have HL := Lib.hid hlit
      have HKR := Lib.hid (fun h => (hkr.below hbe).at_ h)
      have HRR := Lib.hid (fun h => (hrow.below hbe).at_ h)
      clear hB hJ hbe hY hK hlit hkr hrow hW hBs h0 q3 q4
      by_cases c1 : k < m
      · have d1 : (k : Int) < (lk : Int) := by omega
        have d2 : (k : Int) < (m : Int) := by omega
        have b1 : decide ((k : Int) < (m : Int)) = true := decide_eq_true (by omega)
        obtain ⟨bk, offk, rfl, hbk, hck⟩ := HKR.out (by omega)
        obtain ⟨bl, offl, rfl, hbl, hcl⟩ := HRR.out (by omega)
        have cK : wr.cell? ⟨bk, offk + k, none⟩ = some (.string (ks.getD k ByteArray.empty)) := by
          have e := (hck k (by omega)).2 0 (by omega)
          simpa using e
        have cL := (hcl k (by omega)).2
        obtain ⟨N, hN⟩ := HL.out k (by omega)
        obtain ⟨x, ex⟩ : ∃ x, x = ks.getD k ByteArray.empty := ⟨_, rfl⟩
        rw [← ex] at cK
        obtain ⟨c, ec⟩ : ∃ c, c = kid k := ⟨_, rfl⟩
        rw [← ec] at cL hN
        have EX := Lib.hid ex
        have EC := Lib.hid ec
        clear ex ec hck hcl HKR HRR HL
        obtain ⟨z0, z1, z2, z3, z4, rfl⟩ : ∃ z0 z1 z2 z3 z4, c = [z0, z1, z2, z3, z4] := by cases hN; exact ⟨_, _, _, _, _, rfl⟩
        clear hN
        have l0 := cL 0 (by omega)
        have l1 := cL 1 (by omega)
        have l2 := cL 2 (by omega)
        have l3 := cL 3 (by omega)
        have l4 := cL 4 (by omega)
        simp only [List.getElem?_cons_zero, List.getElem?_cons_succ, Nat.add_zero, ← Nat.add_assoc] at l0 l1 l2 l3 l4
        clear cL
        gi_wp2_with (gi_region_with fail)
        obtain ⟨fn, tmps, assign, bodyc, hy, hR⟩ := HY.out (List.range k) k wr.drew (hJa _ _ _ HJ.out ⟨rfl, rfl, rfl, Nat.le_refl _, fun _ _ => rfl⟩) (by rw [List.length_range]; exact c1)
        rw [← EX.out, ← EC.out] at hy
        have hR2 := hR.mono (fun e W' h => two_ends h)
        clear hR
        have HF := Lib.hid (List.range_succ (n := k)).symm
        have HBD := Lib.hid (show Below w0.heap.size w0 wr.drew from HBE.out.trans ⟨rfl, rfl, rfl, Nat.le_refl _, fun _ _ => rfl⟩)
        have HLT := Lib.hid (show Bs < wr.drew.heap.size from (Array.getElem?_eq_some_iff.1 HB.out).1)
        have HW := Lib.hid (wrap_succ c1 hmm)
        have HM := Lib.hid (show m - (Go.RowKit.intOf (.int .i64 (wrap64 ((k : Int) + 1)))).toNat < m - (Go.RowKit.intOf (.int .i64 (k : Int))).toNat by rw [HW.out]; exact step_lt c1)
        have HP := Lib.hid (show List.range k ++ [k] <+: List.range m by rw [HF.out]; exact range_pre c1)
        gi_region_with (refine hR2.mono ?_; rintro e W3 ⟨b, rfl, h5⟩)
        all_goals (
          rcases h5 with ⟨rfl, hJ3, hk3⟩ | ⟨rfl, hJx3⟩
          · have hKK := HKp.out _ _ hk3
            have G1 := Lib.hid (HF.out ▸ hJ3 : J (List.range (k + 1)) W3)
            have G2 := Lib.hid ((HBD.out).trans hKK.1)
            have G3 := Lib.hid ((hKK.2 HLT.out).trans HB.out)
            clear hJ3 hk3 hKK
            gi_wp2
            go_roundw
            case rel => exact ⟨k + 1, c1, congrArg (Value.int .i64) HW.out, G1.out, G2.out, G3.out⟩
            case measure => exact HM.out
          · gi_wp2
            refine bodyPost_ret (results_none rfl _ _ _) rfl ?_
            exact ⟨⟨_, rfl⟩, .inr ⟨List.range k ++ [k], HP.out, hJx3⟩⟩)
      · have b1 : decide ((k : Int) < (m : Int)) = false := decide_eq_false (by omega)
        have ek : k = m := by omega
        gi_wp2
        refine bodyPost_end (results_none rfl _ _ _) rfl ?_
        refine ⟨⟨_, rfl⟩, .inl ⟨_, rfl, ?_⟩⟩
        rw [← ek]
        exact HJ.out
  · have em : m = lk := by omega
    have c2 : ¬ ll < lk := by omega
    have hmm : m ≤ maxLen := by omega
    subst em
    clear hm
    gi_wp2
    gi_loopw [11] (fun v wr => ∃ k : Nat, k ≤ m ∧ v = .int .i64 (k : Int) ∧ J (List.range k) wr ∧ Below w0.heap.size w0 wr ∧ wr.heap[Bs]? = some (.cells #[.int .i64 kind, .int .i64 num, .string s, .slice ak m ck, .slice al ll cl] 25 (0, 0))) (fun v _ => m - (Go.RowKit.intOf v).toNat)
    case atStart => exact ⟨0, Nat.zero_le _, rfl, h0, hW, hBs⟩
    case round =>
      obtain ⟨k, hk0, rfl, hJ, hbe, hB⟩ := hrel
      have r3 := cell_of_row wr Bs 3 _ _ _ hB
      have r4 := cell_of_row wr Bs 4 _ _ _ hB
      simp only [List.getElem?_toArray, List.getElem?_cons_zero, List.getElem?_cons_succ] at r3 r4
      have HB := Lib.hid hB
      have HJ := Lib.hid hJ
      have HBE := Lib.hid hbe
      have HY := Lib.hid hY
      have HKp := Lib.hid hK
      have HL := Lib.hid hlit
      have HKR := Lib.hid (fun h => (hkr.below hbe).at_ h)
      have HRR := Lib.hid (fun h => (hrow.below hbe).at_ h)
      clear hB hJ hbe hY hK hlit hkr hrow hW hBs h0 q3 q4
      by_cases c1 : k < m
      · have d1 : (k : Int) < (m : Int) := by omega
        have d2 : (k : Int) < (ll : Int) := by omega
        have b1 : decide ((k : Int) < (m : Int)) = true := decide_eq_true (by omega)
        obtain ⟨bk, offk, rfl, hbk, hck⟩ := HKR.out (by omega)
        obtain ⟨bl, offl, rfl, hbl, hcl⟩ := HRR.out (by omega)
        have cK : wr.cell? ⟨bk, offk + k, none⟩ = some (.string (ks.getD k ByteArray.empty)) := by
          have e := (hck k (by omega)).2 0 (by omega)
          simpa using e
        have cL := (hcl k (by omega)).2
        obtain ⟨N, hN⟩ := HL.out k (by omega)
        obtain ⟨x, ex⟩ : ∃ x, x = ks.getD k ByteArray.empty := ⟨_, rfl⟩
        rw [← ex] at cK
        obtain ⟨c, ec⟩ : ∃ c, c = kid k := ⟨_, rfl⟩
        rw [← ec] at cL hN
        have EX := Lib.hid ex
        have EC := Lib.hid ec
        clear ex ec hck hcl HKR HRR HL
        obtain ⟨z0, z1, z2, z3, z4, rfl⟩ : ∃ z0 z1 z2 z3 z4, c = [z0, z1, z2, z3, z4] := by cases hN; exact ⟨_, _, _, _, _, rfl⟩
        clear hN
        have l0 := cL 0 (by omega)
        have l1 := cL 1 (by omega)
        have l2 := cL 2 (by omega)
        have l3 := cL 3 (by omega)
        have l4 := cL 4 (by omega)
        simp only [List.getElem?_cons_zero, List.getElem?_cons_succ, Nat.add_zero, ← Nat.add_assoc] at l0 l1 l2 l3 l4
        clear cL
        gi_wp2_with (gi_region_with fail)
        obtain ⟨fn, tmps, assign, bodyc, hy, hR⟩ := HY.out (List.range k) k wr.drew (hJa _ _ _ HJ.out ⟨rfl, rfl, rfl, Nat.le_refl _, fun _ _ => rfl⟩) (by rw [List.length_range]; exact c1)
        rw [← EX.out, ← EC.out] at hy
        have hR2 := hR.mono (fun e W' h => two_ends h)
        clear hR
        have HF := Lib.hid (List.range_succ (n := k)).symm
        have HBD := Lib.hid (show Below w0.heap.size w0 wr.drew from HBE.out.trans ⟨rfl, rfl, rfl, Nat.le_refl _, fun _ _ => rfl⟩)
        have HLT := Lib.hid (show Bs < wr.drew.heap.size from (Array.getElem?_eq_some_iff.1 HB.out).1)
        have HW := Lib.hid (wrap_succ c1 hmm)
        have HM := Lib.hid (show m - (Go.RowKit.intOf (.int .i64 (wrap64 ((k : Int) + 1)))).toNat < m - (Go.RowKit.intOf (.int .i64 (k : Int))).toNat by rw [HW.out]; exact step_lt c1)
        have HP := Lib.hid (show List.range k ++ [k] <+: List.range m by rw [HF.out]; exact range_pre c1)
        gi_region_with (refine hR2.mono ?_; rintro e W3 ⟨b, rfl, h5⟩)
        all_goals (
          rcases h5 with ⟨rfl, hJ3, hk3⟩ | ⟨rfl, hJx3⟩
          · have hKK := HKp.out _ _ hk3
            have G1 := Lib.hid (HF.out ▸ hJ3 : J (List.range (k + 1)) W3)
            have G2 := Lib.hid ((HBD.out).trans hKK.1)
            have G3 := Lib.hid ((hKK.2 HLT.out).trans HB.out)
            clear hJ3 hk3 hKK
            gi_wp2
            go_roundw
            case rel => exact ⟨k + 1, c1, congrArg (Value.int .i64) HW.out, G1.out, G2.out, G3.out⟩
            case measure => exact HM.out
          · gi_wp2
            refine bodyPost_ret (results_none rfl _ _ _) rfl ?_
            exact ⟨⟨_, rfl⟩, .inr ⟨List.range k ++ [k], HP.out, hJx3⟩⟩)
      · have b1 : decide ((k : Int) < (m : Int)) = false := decide_eq_false (by omega)
        have ek : k = m := by omega
        gi_wp2
        refine bodyPost_end (results_none rfl _ _ _) rfl ?_
        refine ⟨⟨_, rfl⟩, .inl ⟨_, rfl, ?_⟩⟩
        rw [← ek]
        exact HJ.out
/-- What a round keeps: what lay below n₀, and the block that holds the node. -/
def KpN (n₀ Bs : Nat) (A B : World) : Prop := Below n₀ A B ∧ (Bs < A.heap.size → B.heap[Bs]? = A.heap[Bs]?)
theorem kpN_t {n₀ Bs : Nat} {A B C : World} (h : KpN n₀ Bs A B) (k : KpN n₀ Bs B C) : KpN n₀ Bs A C := ⟨h.1.trans k.1, fun hl => (k.2 (Nat.lt_of_lt_of_le hl h.1.size)).trans (h.2 hl)⟩
theorem kpN_b {n₀ Bs : Nat} {w : World} (hn : n₀ ≤ w.heap.size) (hB : Bs < w.heap.size) (W : World) (l : Nat) (o o' : Obj) (hl : w.heap.size ≤ l) (h : W.heap[l]? = some o) (h1 : o.isCells = false) (h2 : o.isWalk = false) : KpN n₀ Bs W (W.putObj l o') :=
  ⟨belowK_b hn W l o o' hl h h1 h2, fun hlt => (grownBy_putObj' W l o').block Bs hlt (by simp; omega)⟩
theorem below_no {w w' : World} (h : Below w.heap.size w w') : w.grownBy w' none := ⟨h.os, h.tape, h.output, h.size, fun k hk _ => h.block k hk⟩
/-- The iterator's contract: w0: the world in which the node lay. -/
theorem ent_stops (n : Nat) (hn : 1 ≤ n) (Bs : Nat) (w0 w : World) {kind num : Int} {s : ByteArray} {ks : List ByteArray} {ak : Option Addr} {lk ck : Nat} {al : Option Addr} {ll cl : Nat} {kid : Nat → List Value} (hk : IsStrs w0 ak lk ks) (hrow : RowAt w0 al ll 5 kid) (hlm : ll ≤ maxLen) (hlit : ∀ i, i < ll → ∃ N, IsNd w0 (kid i) N)
    (hw : Below w0.heap.size w0 w) (hBs : w.heap[Bs]? = some (.cells #[.int .i64 kind, .int .i64 num, .string s, .slice ak lk ck, .slice al ll cl] 25 (0, 0))) :
    SeqStopsK Fence.wide n Try.prog 70 #[.pointer (some ⟨Bs, 0, none⟩)] (fun x : Nat => #[Value.string (ks.getD x ByteArray.empty), Value.agg (kid x).toArray]) (KpN w0.heap.size Bs) (fun ys => ys = List.range (min lk ll)) (fun pre => pre <+: List.range (min lk ll)) (min lk ll) w := fun l J Jx W hW hJ hJx hY h0 =>
  ent1_in n hn l Bs w0 hk hrow hlm hlit (KpN w0.heap.size Bs) (fun A B h => h) J Jx (fun pre W1 W' h hbb => hJ pre W1 W' none h (below_no hbb) (fun r e => by cases e)) hY W (hw.trans (hW.mono hw.size))
    ((hW.block Bs (Array.getElem?_eq_some_iff.1 hBs).1).trans hBs) h0
end Go.Proofs.Ytbheiglbejokmaa
