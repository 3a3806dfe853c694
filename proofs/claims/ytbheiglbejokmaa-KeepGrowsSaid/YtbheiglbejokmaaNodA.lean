/- The reference's At and Get (layer 7), over a node that came in. -/
import Derived.Test.YtbheiglbejokmaaNod
import Derived.Test.YtbheiglbejokmaaRow
import Derived.BigQuiet
namespace Go.Proofs.Ytbheiglbejokmaa
set_option maxRecDepth 20000
set_option linter.unusedSimpArgs false
set_option linter.unusedVariables false
open Go.RowKit Go.Sort
attribute [local go_sem] Oper.semAt_some
/-- The first of the first n texts that is this one. -/
def firstAt (ks : List ByteArray) (key : ByteArray) (n : Nat) : Option Nat := (List.range n).find? fun i => decide (ks.getD i ByteArray.empty = key)
theorem firstAt_none {ks : List ByteArray} {key : ByteArray} {n : Nat} (h : ∀ j, j < n → ks.getD j ByteArray.empty ≠ key) : firstAt ks key n = none := by
  unfold firstAt
  rw [List.find?_eq_none]
  intro j hj
  simpa using h j (List.mem_range.1 hj)
theorem firstAt_some {ks : List ByteArray} {key : ByteArray} {n k : Nat} (hk : k < n) (h : ∀ j, j < k → ks.getD j ByteArray.empty ≠ key) (he : ks.getD k ByteArray.empty = key) : firstAt ks key n = some k := by
  unfold firstAt
  rw [List.find?_range_eq_some]
  refine ⟨by simpa using he, List.mem_range.2 hk, fun j hj => ?_⟩
  simpa using h j hj
def Nd.kind : Nd → Int | .mk k _ _ _ _ => k
def Nd.num : Nd → Int | .mk _ n _ _ _ => n
def Nd.str : Nd → ByteArray | .mk _ _ s _ _ => s
def Nd.keys : Nd → List ByteArray | .mk _ _ _ ks _ => ks
def Nd.vals : Nd → List Nd | .mk _ _ _ _ ls => ls
/-- The place of a map's first key that is this one. -/
def Nd.at_ (N : Nd) (key : ByteArray) : Option Nat := if N.kind = 6 then firstAt N.keys key (min N.keys.length N.vals.length) else none
def atI : Option Nat → Int | none => -1 | some k => (k : Int)
theorem wrap_succ {k lk : Nat} (h : k < lk) (hm : lk ≤ maxLen) : wrap64 ((k : Int) + 1) = ((k + 1 : Nat) : Int) := by
  unfold maxLen at hm
  rw [IntWalk.wrap64_in _ (by omega)]
  omega
theorem step_lt {k lk : Nat} (h : k < lk) : lk - (Go.RowKit.intOf (.int .i64 ((k + 1 : Nat) : Int))).toNat < lk - (Go.RowKit.intOf (.int .i64 (k : Int))).toNat := by
  show lk - ((k + 1 : Nat) : Int).toNat < lk - (k : Int).toNat
  omega
theorem text_ne {a b : ByteArray} (h : ¬ a = b) : (a.toList == b.toList) = false := by
  rw [ByteArray.toList_eq, ByteArray.toList_eq, beq_eq_false_iff_ne]
  intro e
  apply h
  exact ByteArray.ext (Array.toList_inj.1 e)
theorem at_some {n : Int} {s key : ByteArray} {ks : List ByteArray} {ls : List Nd} {lk ll k : Nat} (hk : ks.length = lk) (hl : ls.length = ll) (h1 : k < lk) (h2 : k < ll) (h : ∀ j, j < k → ks.getD j ByteArray.empty ≠ key) (he : ks.getD k ByteArray.empty = key) : (Nd.mk 6 n s ks ls).at_ key = some k := by
  unfold Nd.at_
  rw [if_pos (show (Nd.mk 6 n s ks ls).kind = 6 from rfl)]
  exact firstAt_some (by show k < min ks.length ls.length; omega) h he
theorem at_none {kind n : Int} {s key : ByteArray} {ks : List ByteArray} {ls : List Nd} {lk ll k : Nat} (hk : ks.length = lk) (hl : ls.length = ll) (h1 : lk ≤ k ∨ ll ≤ k) (h : ∀ j, j < k → ks.getD j ByteArray.empty ≠ key) : (Nd.mk kind n s ks ls).at_ key = none := by
  unfold Nd.at_
  split
  · exact firstAt_none fun j hj => h j (by have : j < min ks.length ls.length := hj; omega)
  · rfl
theorem at_kind {kind n : Int} {s key : ByteArray} {ks : List ByteArray} {ls : List Nd} (h : ¬ kind = 6) : (Nd.mk kind n s ks ls).at_ key = none := if_neg h
set_option maxRecDepth 100000 in
set_option maxHeartbeats 2000000 in
theorem rat_any (w : World) (cs : List Value) (N : Nd) (h : IsNd w cs N) (key : ByteArray) :
    Calls Try.prog 65 #[.agg cs.toArray, .string key] w fun e w' => e = .returned (.int .i64 (atI (N.at_ key))) ∧ Below w.heap.size w w' := by
  cases h with
  | @mk kind n s ks ls ak lk ck al ll cl kid hkind hn hs hk hl hlm hrow hkids =>
    obtain ⟨hkl, hkm, hks, hkr⟩ := hk
    obtain ⟨R, eR⟩ : ∃ R, R = (Nd.mk kind n s ks ls).at_ key := ⟨_, rfl⟩
    rw [← eR]
    go_enter Try.func65, Try.ntmps65
    go_wp2_with fail
    go_loopw [5] (fun v W => ∃ k : Nat, k ≤ lk ∧ k ≤ ll ∧ v = .int .i64 (k : Int) ∧ (0 < k → kind = 6) ∧ (∀ j, j < k → ks.getD j ByteArray.empty ≠ key) ∧ Mem w [(w.heap.size, .cells #[.int .i64 kind, .int .i64 n, .string s, .slice ak lk ck, .slice al ll cl] 25 (0, 0))] W) (fun v _ => lk - (Go.RowKit.intOf v).toNat)
    case atStart => exact ⟨0, by omega, by omega, rfl, fun h => absurd h (by omega), fun j h => absurd h (by omega), (Mem.start w).new1 _⟩
    case round =>
      obtain ⟨k, h1, h2, rfl, h3, h4, hM⟩ := hrel
      have hB := hM.get 0 rfl
      have q0 := cell_of_row wr w.heap.size 0 _ _ _ hB
      have q3 := cell_of_row wr w.heap.size 3 _ _ _ hB
      have q4 := cell_of_row wr w.heap.size 4 _ _ _ hB
      simp only [List.getElem?_toArray, List.getElem?_cons_zero, List.getElem?_cons_succ] at q0 q3 q4
      have HM := Lib.hid hM
      have H4 := Lib.hid h4
      have HB := Lib.hid hB
      have HK := Lib.hid (fun h0 => hkr.at_ h0)
      clear hM h4 hB hkr hrow hkids hks hkind hn hs
      by_cases c1 : k < lk
      · by_cases c2 : k < ll
        · by_cases c3 : kind = 6
          · have d1 : (k : Int) < (lk : Int) := by omega
            have d2 : (k : Int) < (ll : Int) := by omega
            have b1 : decide ((k : Int) < (lk : Int)) = true := decide_eq_true d1
            have b2 : decide ((k : Int) < (ll : Int)) = true := decide_eq_true d2
            subst c3
            obtain ⟨b, off, rfl, hb, hc⟩ := HK.out (by omega)
            have cK : wr.cell? ⟨b, off + k, none⟩ = some (.string (ks.getD k ByteArray.empty)) := by
              have e := (HM.out.below.cell (p := ⟨b, off + (k * 1 + 0), none⟩) hb).trans ((hc k c1).2 0 (by omega))
              simpa using e
            clear hc HK
            obtain ⟨x, ex⟩ : ∃ x, x = ks.getD k ByteArray.empty := ⟨_, rfl⟩
            rw [← ex] at cK
            have EX := Lib.hid ex
            have ER := Lib.hid eR
            clear ex eR
            by_cases hx : x = key
            · have hR : R = some k := ER.out.trans (at_some hkl hl c1 c2 H4.out (EX.out.symm.trans hx))
              subst hR
              have HX := Lib.hid hx
              have hxc : (x.toList == key.toList) = true := by rw [hx]; exact beq_self_eq_true _
              clear hx
              go_wp2_with (go_quiet (fail))
              refine bodyPost_ret (results_slot rfl rfl) rfl ?_
              exact ⟨rfl, HM.out.below⟩
            · have hxc : (x.toList == key.toList) = false := text_ne hx
              have HX := Lib.hid hx
              have hw : wrap64 ((k : Int) + 1) = ((k + 1 : Nat) : Int) := wrap_succ c1 hkm
              have g1 : k + 1 ≤ lk := c1
              have g2 : k + 1 ≤ ll := c2
              have g3 : ∀ j, j < k + 1 → ks.getD j ByteArray.empty ≠ key := fun j hj => by
                rcases Nat.lt_or_eq_of_le (Nat.le_of_lt_succ hj) with e | e
                · exact H4.out j e
                · rw [e, ← EX.out]
                  exact hx
              have g4 : lk - (Go.RowKit.intOf (.int .i64 (wrap64 ((k : Int) + 1)))).toNat < lk - (Go.RowKit.intOf (.int .i64 (k : Int))).toNat := by
                rw [hw]
                exact step_lt c1
              have G3 := Lib.hid g3
              have G4 := Lib.hid g4
              have HW := Lib.hid hw
              clear g3 g4 hw
              clear hx
              go_wp2_with (go_quiet (fail))
              exact ⟨⟨k + 1, g1, g2, congrArg (Value.int .i64) HW.out, fun _ => trivial, G3.out, HM.out⟩, G4.out⟩
          · have b1 : decide ((k : Int) < (lk : Int)) = true := decide_eq_true (by omega)
            have b2 : decide ((k : Int) < (ll : Int)) = true := decide_eq_true (by omega)
            have b3 : (kind == 6) = false := by simpa using c3
            have hR : R = none := eR.trans (at_kind c3)
            subst hR
            clear eR
            go_wp2_with (go_quiet (fail))
            refine bodyPost_ret (results_slot rfl rfl) rfl ?_
            exact ⟨rfl, HM.out.below⟩
        · have b1 : decide ((k : Int) < (lk : Int)) = true := decide_eq_true (by omega)
          have b2 : decide ((k : Int) < (ll : Int)) = false := decide_eq_false (by omega)
          have hR : R = none := eR.trans (at_none hkl hl (by omega) H4.out)
          subst hR
          clear eR
          go_wp2_with (go_quiet (fail))
          refine bodyPost_ret (results_slot rfl rfl) rfl ?_
          exact ⟨rfl, HM.out.below⟩
      · have b1 : decide ((k : Int) < (lk : Int)) = false := decide_eq_false (by omega)
        have hR : R = none := eR.trans (at_none hkl hl (by omega) H4.out)
        subst hR
        clear eR
        go_wp2_with (go_quiet (fail))
        refine bodyPost_ret (results_slot rfl rfl) rfl ?_
        exact ⟨rfl, HM.out.below⟩
