/- Rules of layer 29 as rows; field.rules, Must, May. -/
import Derived.Test.YtbheiglbejokmaaMapm
import Derived.Test.YtbheiglbejokmaaNodB
namespace Go.Proofs.Ytbheiglbejokmaa
set_option maxRecDepth 20000
set_option linter.unusedSimpArgs false
set_option linter.unusedVariables false
open Go.RowKit Go.Sort Go.Lib
/-- A rule as it is meant. -/
structure Rl where
  name : ByteArray
  kind : Int
  must : Bool
  most : Int
  low : Bool
def Rl.cs (r : Rl) : List Value := [.string r.name, .int .i64 r.kind, .bool r.must, .int .i64 r.most, .bool r.low]
def rl0 : Rl := ⟨ByteArray.empty, 0, false, 0, false⟩
def rlV (L : List Rl) : List Value := L.flatMap Rl.cs
/-- A slice of rules. -/
def IsRl (w : World) (v : Value) (L : List Rl) : Prop := ∃ a len cap, v = .slice a len cap ∧ L.length = len ∧ len ≤ maxLen ∧ RowAt w a len 5 (fun i => (L.getD i rl0).cs)
theorem IsRl.keep {w w' : World} {v : Value} {L : List Rl} (h : IsRl w v L) (hb : Below w.heap.size w w') : IsRl w' v L := by
  obtain ⟨a, len, cap, h1, h2, h3, h4⟩ := h
  exact ⟨a, len, cap, h1, h2, h3, h4.below hb⟩
theorem flat_len {α : Type} (f : α → List Value) (n : Nat) (hf : ∀ x, (f x).length = n) (L : List α) : (L.flatMap f).length = L.length * n := by
  induction L with
  | nil => simp
  | cons x l ih => rw [List.flatMap_cons, List.length_append, ih, hf, List.length_cons, Nat.succ_mul, Nat.add_comm]
theorem flat_get {α : Type} (f : α → List Value) (n : Nat) (hf : ∀ x, (f x).length = n) (d : α) : ∀ (L : List α) (i j : Nat), i < L.length → j < n → (L.flatMap f)[i * n + j]? = (f (L.getD i d))[j]? := by
  intro L
  induction L with
  | nil => intro i j h; simp at h
  | cons x l ih =>
    intro i j h hj
    rw [List.flatMap_cons]
    cases i with
    | zero => rw [Nat.zero_mul, Nat.zero_add, List.getElem?_append_left (by rw [hf]; exact hj)]; simp
    | succ i =>
      rw [List.getElem?_append_right (by rw [hf, Nat.succ_mul]; omega), hf]
      have e : (i + 1) * n + j - n = i * n + j := by rw [Nat.succ_mul]; omega
      rw [e, ih i j (by simpa using h) hj]
      simp
theorem Rl.len (r : Rl) : r.cs.length = 5 := rfl
/-- A row of the call's own, as rules. -/
theorem own_rl {w : World} {B : Nat} {T : TypeId} {v : Value} {L : List Rl} (h : w.ownsRow B T 5 v L.length (rlV L)) : IsRl w v L := by
  obtain ⟨hl, ⟨rfl, h0⟩ | ⟨g, cap, cur, rfl, _, hh, hn, hmx, hs, ht⟩⟩ := h
  · exact ⟨none, 0, 0, rfl, by omega, Nat.zero_le _, ⟨fun h => absurd h (by omega)⟩⟩
  · refine ⟨some ⟨g, 0, none⟩, L.length, cap, rfl, rfl, Nat.le_trans hn hmx, ⟨fun _ => ⟨g, 0, rfl, (Array.getElem?_eq_some_iff.1 hh).1, fun i hi => ⟨rfl, fun j hj => ?_⟩⟩⟩⟩
    rw [cell_of_row w g _ cur T (0, 0) hh, Nat.zero_add, ← flat_get Rl.cs 5 Rl.len rl0 L i j hi hj]
    have h3 : cur.toList[i * 5 + j]? = (rlV L)[i * 5 + j]? := by
      rw [← ht, List.getElem?_take_of_lt (by omega)]
    rw [← Array.getElem?_toList, h3]
    rfl
theorem info_parts {P : Program} {t : TypeId} {z : Value} {s b : Nat} (h : (P.info? t).map (fun i => (i.zero, i.size, i.bytes)) = some (some z, s, b)) : ∃ i, P.info? t = some i ∧ i.zero = some z ∧ i.size = s ∧ i.bytes = b := by
  cases hi : P.info? t with
  | none => rw [hi] at h; simp at h
  | some i =>
    rw [hi] at h
    simp at h
    exact ⟨i, rfl, h.1, h.2.1, h.2.2⟩
theorem Try.info_rule : (Try.prog.info? 35).map (fun i => (i.zero, i.size, i.bytes)) = some (some (.agg #[.string ByteArray.empty, .int .i64 0, .bool false, .int .i64 0, .bool false]), 5, 48) := by kernel_rfl
theorem rlV_snoc (L : List Rl) (r : Rl) : rlV L ++ r.cs = rlV (L ++ [r]) := by simp [rlV]
theorem map_snoc {α β : Type} (f : α → β) (l : List α) (d : α) (k : Nat) (h : k < l.length) : (l.take k).map f ++ [f (l.getD k d)] = (l.take (k + 1)).map f := by
  rw [List.take_add_one, List.map_append, List.getElem?_eq_getElem h]
  simp [h]
theorem str_at {w : World} {a : Option Addr} {len : Nat} {ss : List ByteArray} (h : IsStrs w a len ss) (h0 : 0 < len) : ∃ b off, a = some ⟨b, off, none⟩ ∧ b < w.heap.size ∧ ∀ i, i < len → w.cell? ⟨b, off + i, none⟩ = some (.string (ss.getD i ByteArray.empty)) := by
  obtain ⟨b, off, e, hb, hc⟩ := h.2.2.2.at_ h0
  exact ⟨b, off, e, hb, fun i hi => by have := (hc i hi).2 0 (by omega); simpa using this⟩
theorem app_below {w wr w3 : World} {ob : Obj} {e : TypeId} {size n : Nat} {v : Value} {xs : List Value} (hb : Below w.heap.size w wr) (o : wr.ownsRow w.heap.size e size v n xs) (hg : (wr.alloc ob).grownBy w3 v.ownBlock) : Below w.heap.size w w3 := by
  have h1 := hb.size
  exact (gr_alloc hb ob).grown hg (by show _ ≤ (wr.heap.push _).size; rw [Array.size_push]; omega) (fun j hj => (o.lt j hj).1)
set_option maxHeartbeats 4000000 in
theorem rules_any (w : World) (kind : Int) (must : Bool) (a : Option Addr) (len cap : Nat) (ss : List ByteArray) (hn : IsStrs w a len ss) (hmx : len ≤ 1000) :
    Calls Try.prog 45 #[.int .i64 kind, .bool must, .slice a len cap] w fun e w' => ∃ v, e = .returned v ∧ IsRl w' v (ss.map fun s => ⟨s, kind, must, 0, false⟩) ∧ Below w.heap.size w w' := by
  obtain ⟨i0, hi, hz0, hz1, hz2⟩ := info_parts Try.info_rule
  obtain ⟨F, eF⟩ : ∃ F : ByteArray → Rl, F = fun s => ⟨s, kind, must, 0, false⟩ := ⟨_, rfl⟩
  rw [← eF]
  have EF := Lib.hid eF
  clear eF
  have HL := Lib.hid hn.1
  have HS := Lib.hid (fun h0 => str_at hn h0)
  clear hn
  go_enter Try.func45, Try.ntmps45
  go_wp2_with fail
  go_loopw [7, 12] (fun v7 i wr => ∃ k : Nat, i = .int .i64 (k : Int) ∧ k ≤ len ∧ wr.ownsRow w.heap.size 35 5 v7 k (rlV ((ss.take k).map F)) ∧ Below w.heap.size w wr) (fun _ i _ => len - (Go.RowKit.intOf i).toNat)
  case atStart => exact ⟨0, rfl, Nat.zero_le _, ⟨rfl, .inl ⟨rfl, rfl⟩⟩, Below.refl _ _⟩
  case round =>
    obtain ⟨k, rfl, hk, hown, hb⟩ := hrel
    have HB := Lib.hid hb
    by_cases hlt : k < len
    · have d1 : (k : Int) < (len : Int) := by omega
      have b1 : decide ((k : Int) < (len : Int)) = true := decide_eq_true d1
      obtain ⟨b, off, rfl, hbl, hc⟩ := HS.out (by omega)
      have cK : wr.cell? ⟨b, off + k, none⟩ = some (.string (ss.getD k ByteArray.empty)) := (hb.cell (p := ⟨b, off + k, none⟩) hbl).trans (hc k hlt)
      clear hc
      obtain ⟨x, ex⟩ : ∃ x, x = ss.getD k ByteArray.empty := ⟨_, rfl⟩
      rw [← ex] at cK
      have EX := Lib.hid ex
      have HM := Lib.hid (wrap_succ hlt (by unfold maxLen; omega))
      have hbs := hb.size
      clear ex hb
      go_wp2_with (at_builtin; refine wpList_append_own _ rfl (.tmp 16) (.tmp 21) 26 rfl w.heap.size 35 i0 _ 5 48 Try.underlying26 hi hz0 hz1 hz2 rfl (by decide) u7 k _ (by simp [Act.eval]) (by exact hown.alloc _) ⟨wr.heap.size, 0, none⟩ 1 1 (Rl.cs ⟨x, kind, must, 0, false⟩) (by simp [Act.eval]) rfl (by exact news_new wr #[_, _, _, _, _] _) (by simp [Rl.cs, Value.oneCell']) (by unfold maxLen; omega) (by omega) (by simp; omega) ?_; intro v3 w3 hown3 hgrow3 _)
      refine ⟨⟨k + 1, rfl, hlt, ?_, app_below HB.out hown hgrow3⟩, by show len - ((k : Int) + 1).toNat < len - (k : Int).toNat; omega⟩
      have e1 : (⟨x, kind, must, 0, false⟩ : Rl) = F (ss.getD k ByteArray.empty) := by rw [EF.out, EX.out]
      rw [rlV_snoc, e1, map_snoc F ss ByteArray.empty k (by rw [HL.out]; exact hlt)] at hown3
      exact hown3
    · have b1 : decide ((k : Int) < (len : Int)) = false := decide_eq_false (by omega)
      obtain rfl : k = len := by omega
      rw [List.take_of_length_le (by rw [HL.out]; exact Nat.le_refl _)] at hown
      have hfin := own_rl (L := ss.map F) (by rw [List.length_map, HL.out]; exact hown)
      have HF := Lib.hid hfin
      clear hown hfin hb
      go_wp2_with fail
      go_ret
      exact ⟨_, rfl, HF.out, HB.out⟩
theorem must_any (w : World) (kind : Int) (a : Option Addr) (len cap : Nat) (ss : List ByteArray) (hn : IsStrs w a len ss) (hmx : len ≤ 1000) :
    Calls Try.prog 15 #[.int .i64 kind, .slice a len cap] w fun e w' => ∃ v, e = .returned v ∧ IsRl w' v (ss.map fun s => ⟨s, kind, true, 0, false⟩) ∧ Below w.heap.size w w' := by
  have K := Lib.hid (rules_any w kind true a len cap ss hn hmx)
  clear hn
  go_enter Try.func15, Try.ntmps15
  go_wp2_with fail
  refine K.out.mono ?_
  rintro e w' ⟨v, rfl, h1, h2⟩
  have H := Lib.hid (And.intro h1 h2)
  clear h1 h2
  go_wp2_with fail
  go_ret
  exact ⟨_, rfl, H.out⟩
theorem may_any (w : World) (kind : Int) (a : Option Addr) (len cap : Nat) (ss : List ByteArray) (hn : IsStrs w a len ss) (hmx : len ≤ 1000) :
    Calls Try.prog 16 #[.int .i64 kind, .slice a len cap] w fun e w' => ∃ v, e = .returned v ∧ IsRl w' v (ss.map fun s => ⟨s, kind, false, 0, false⟩) ∧ Below w.heap.size w w' := by
  have K := Lib.hid (rules_any w kind false a len cap ss hn hmx)
  clear hn
  go_enter Try.func16, Try.ntmps16
  go_wp2_with fail
  refine K.out.mono ?_
  rintro e w' ⟨v, rfl, h1, h2⟩
  have H := Lib.hid (And.intro h1 h2)
  clear h1 h2
  go_wp2_with fail
  go_ret
  exact ⟨_, rfl, H.out⟩
end Go.Proofs.Ytbheiglbejokmaa
