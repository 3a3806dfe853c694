/- The reference's All and Valid (layer 3). -/
import Derived.Test.YtcadklhjhjbhaaaDoorUtfF
import Derived.Test.YtcadklhjhjbhaaaDoorUtfD
namespace Go.Proofs.YtcadklhjhjbhaaaDoor
set_option maxRecDepth 20000
set_option linter.unusedSimpArgs false
set_option linter.unusedVariables false
open Go.RowKit
theorem Tryd.info_int : (Tryd.prog.info? 3).map (fun i => (i.zero, i.size, i.bytes)) = some (some (.int .i64 0), 1, 8) := by kernel_rfl
theorem Tryd.info_int64 : (Tryd.prog.info? 2).map (fun i => (i.zero, i.size, i.bytes)) = some (some (.int .i64 0), 1, 8) := by kernel_rfl
theorem info_parts {P : Program} {t : TypeId} {z : Value} {s b : Nat} (h : (P.info? t).map (fun i => (i.zero, i.size, i.bytes)) = some (some z, s, b)) : ∃ i, P.info? t = some i ∧ i.zero = some z ∧ i.size = s ∧ i.bytes = b := by
  cases hi : P.info? t with
  | none => rw [hi] at h; simp at h
  | some i =>
    rw [hi] at h
    simp at h
    exact ⟨i, rfl, h.1, h.2.1, h.2.2⟩
theorem rows_apart {w : World} {base : Nat} {e e' : TypeId} {v v' : Value} {n n' : Nat} {xs xs' : List Value} (h : w.ownsRow base e 1 v n xs) (h' : w.ownsRow base e' 1 v' n' xs') (he : e ≠ e') : v.ownBlock = none ∨ v.ownBlock ≠ v'.ownBlock := by
  rcases h.2 with ⟨rfl, _⟩ | ⟨g, cap, cur, rfl, _, hg, _⟩
  · exact .inl rfl
  · rcases h'.2 with ⟨rfl, _⟩ | ⟨g', cap', cur', rfl, _, hg', _⟩
    · exact .inr (by simp [Value.ownBlock])
    · refine .inr fun e2 => ?_
      obtain rfl : g = g' := by simpa [Value.ownBlock] using e2
      rw [hg] at hg'
      simp at hg'
      exact he hg'.2
theorem row_lt {w : World} {base : Nat} {e : TypeId} {v : Value} {n : Nat} {xs : List Value} (h : w.ownsRow base e 1 v n xs) {w' : World} (hb : Below w.heap.size w w') : w'.ownsRow base e 1 v n xs := by
  obtain ⟨hl, ⟨rfl, h0⟩ | ⟨g, cap, cur, rfl, hg, hh, r⟩⟩ := h
  · exact ⟨hl, .inl ⟨rfl, h0⟩⟩
  · exact ⟨hl, .inr ⟨g, cap, cur, rfl, hg, (hb.block g (Array.getElem?_eq_some_iff.1 hh).1).trans hh, r⟩⟩
theorem alloc_size1 (w : World) (o : Obj) : (w.alloc o).heap.size = w.heap.size + 1 := by simp
def cpV (l : List (Nat × Nat)) : List Value := l.map fun x => .int .i64 (x.2 : Int)
def plV (l : List (Nat × Nat)) : List Value := l.map fun x => .int .i64 (x.1 : Int)
theorem cpV_snoc (l : List (Nat × Nat)) (x : Nat × Nat) : cpV l ++ [.int .i64 (x.2 : Int)] = cpV (l ++ [x]) := by simp [cpV]
theorem plV_snoc (l : List (Nat × Nat)) (x : Nat × Nat) : plV l ++ [.int .i64 (x.1 : Int)] = plV (l ++ [x]) := by simp [plV]
theorem runeLen_nx {l : List UInt8} {n k : Nat} (h : nx l = some (n, k)) : Lib.runeLen (n : Int) = (k : Int) := by
  obtain ⟨h1, _, h3⟩ := nx_iff.1 h
  subst h3
  unfold Lib.runeLen
  rw [if_neg (by omega)]
  rcases form_cases h1 with ⟨c1, e⟩ | ⟨c1, c2, e⟩ | ⟨c1, c2, c3, e⟩ | ⟨c1, c2, e⟩
  · rw [← List.length_map (f := UInt8.toNat), e, if_pos (by omega)]; rfl
  · rw [← List.length_map (f := UInt8.toNat), e, if_neg (by omega), if_pos (by omega)]; rfl
  · rw [← List.length_map (f := UInt8.toNat), e, if_neg (by omega), if_neg (by omega), if_neg (by omega), if_pos (by omega)]; rfl
  · rw [← List.length_map (f := UInt8.toNat), e, if_neg (by omega), if_neg (by omega), if_neg (by omega), if_neg (by omega), if_pos (by omega)]; rfl
/-- How far All has read. -/
structure Read (L : List UInt8) (pre : List (Nat × Nat)) (a : Nat) : Prop where
  le : a ≤ L.length
  eq : cpsAt L 0 = pre ++ cpsAt L a
  fin : endZ pre = (a : Int)
theorem Read.zero (L : List UInt8) : Read L [] 0 := ⟨Nat.zero_le _, rfl, rfl⟩
theorem Read.step {L : List UInt8} {pre : List (Nat × Nat)} {a n k : Nat} (h : Read L pre a) (hL : L.length ≤ 100000) (hx : nx (L.drop a) = some (n, k)) : Read L (pre ++ [(a, n)]) (a + k) := by
  have h1 := nx_lt hx
  refine ⟨h1.1, ?_, ?_⟩
  · rw [h.eq, cpsAt_some hx, List.append_assoc]
    rfl
  · rw [endZ_snoc, runeLen_nx hx]
    show wrap64 ((a : Int) + (k : Int)) = _
    rw [IntWalk.wrap64_in _ ⟨by omega, by omega⟩]
    omega
theorem Read.last {L : List UInt8} {pre : List (Nat × Nat)} {a : Nat} (h : Read L pre a) (hx : nx (L.drop a) = none) : cpsAt L 0 = pre ∧ endZ (cpsAt L 0) = (a : Int) := by
  have e : cpsAt L 0 = pre := by rw [h.eq, cpsAt_none hx, List.append_nil]
  exact ⟨e, by rw [e]; exact h.fin⟩
theorem Read.few {L : List UInt8} {pre : List (Nat × Nat)} {a : Nat} (h : Read L pre a) : pre.length ≤ L.length := by
  have h1 := cps_len (L.length - 0) L 0 rfl
  rw [h.eq, List.length_append] at h1
  omega
/-- An append onto one of two rows of the call's own. -/
theorem ap_step {w w1 w3 : World} {e e' : TypeId} {v v' : Value} {n n' : Nat} {xs xs' : List Value} {ob : Obj} (hb : Below w.heap.size w w1) (o : w1.ownsRow w.heap.size e 1 v n xs) (o' : w1.ownsRow w.heap.size e' 1 v' n' xs') (he : e' ≠ e) (hg : (w1.alloc ob).grownBy w3 v.ownBlock) :
    w3.ownsRow w.heap.size e' 1 v' n' xs' ∧ Below w.heap.size w w3 ∧ w.heap.size ≤ w3.heap.size := by
  have h1 := hb.size
  have h := (gr_alloc hb ob).grown hg (by rw [alloc_size1]; omega) (fun j hj => (o.lt j hj).1)
  exact ⟨(o'.alloc ob).kept hg (rows_apart (o'.alloc ob) (o.alloc ob) he), h, h.size⟩
def retA (v5 v6 : Value) (a : Nat) : Ending := .returned (.tuple #[v5, v6, .int .i64 (a : Int)])
set_option maxHeartbeats 4000000 in
theorem rall_any (s : ByteArray) (w : World) (hs : s.size ≤ 100000) :
    Calls Tryd.prog 27 #[.string s] w fun e w' => ∃ v5 v6 a, e = retA v5 v6 a ∧ endZ (cpsAt s.data.toList 0) = (a : Int) ∧
      w'.ownsRow w.heap.size 2 1 v5 (cpsAt s.data.toList 0).length (cpV (cpsAt s.data.toList 0)) ∧ w'.ownsRow w.heap.size 3 1 v6 (cpsAt s.data.toList 0).length (plV (cpsAt s.data.toList 0)) ∧ Below w.heap.size w w' := by
  obtain ⟨i0, hi, hz0, hz1, hz2⟩ := info_parts Tryd.info_int64
  obtain ⟨i1, hj, hy0, hy1, hy2⟩ := info_parts Tryd.info_int
  have HSL : Hid (s.data.toList.length = s.size) := (Lib.size_eq s).symm
  go_enter Tryd.func27, Tryd.ntmps27
  go_wp2_with fail
  go_loopw [5, 6, 7] (fun v5 v6 i wr => ∃ (a : Nat) (pre : List (Nat × Nat)), Hid (Read s.data.toList pre a) ∧ i = .int .i64 (a : Int) ∧ wr.ownsRow w.heap.size 2 1 v5 pre.length (cpV pre) ∧ wr.ownsRow w.heap.size 3 1 v6 pre.length (plV pre) ∧ Below w.heap.size w wr) (fun _ _ i _ => s.size - (intOf i).toNat)
  case atStart => exact ⟨0, [], Lib.hid (Read.zero _), rfl, ⟨rfl, .inl ⟨rfl, rfl⟩⟩, ⟨rfl, .inl ⟨rfl, rfl⟩⟩, Below.refl _ _⟩
  case round =>
    obtain ⟨a, pre, HR, rfl, ho5, ho6, hb⟩ := hrel
    have HA := Lib.hid HR.out.le
    have HF := Lib.hid HR.out.few
    have HNV := Lib.hid (nextV_nat s.data.toList a)
    by_cases hlt : a < s.size
    · have p1 : (a : Int) < (s.size : Int) := by omega
      have KN := Lib.hid (rnext_any s (a : Int) wr hs)
      rw [HNV.out] at KN
      obtain ⟨m, hm⟩ : ∃ m, pre.length = m := ⟨_, rfl⟩
      rw [hm] at ho5 ho6 HF
      have hm9 : m ≤ 100000 := by have := HF.out; rw [HSL.out] at this; omega
      cases hx : nx (s.data.toList.drop a) with
      | none =>
        have HL := Lib.hid (HR.out.last hx)
        rw [hx, show retR none = Ending.returned (.tuple #[.int .i64 0, .int .i64 0]) from rfl] at KN
        have HM := Lib.hid hm
        clear hx hm
        go_wp2_with fail
        refine KN.out.mono ?_
        rintro e w1 ⟨rfl, hb1⟩
        go_wp2_with fail
        go_ret3
        refine ⟨u5, u6, a, rfl, HL.out.2, ?_, ?_, hb.trans (hb1.mono hb.size)⟩
        · rw [HL.out.1, HM.out]; exact row_lt ho5 hb1
        · rw [HL.out.1, HM.out]; exact row_lt ho6 hb1
      | some x =>
        obtain ⟨n, k⟩ := x
        have h1 := nx_lt hx
        have HST := Lib.hid (HR.out.step (by rw [HSL.out]; exact hs) hx)
        rw [hx, show retR (some (n, k)) = Ending.returned (.tuple #[.int .i64 (n : Int), .int .i64 (k : Int)]) from rfl] at KN
        have h2 : a + k ≤ s.size := by have := h1.1; rw [HSL.out] at this; exact this
        have h3 : 1 ≤ k := h1.2
        have HM := Lib.hid hm
        clear hx hm h1
        go_wp2_with fail
        refine KN.out.mono ?_
        rintro e w1 ⟨rfl, hb1⟩
        have hb2 : Below w.heap.size w w1 := hb.trans (hb1.mono hb.size)
        have o5 := row_lt ho5 hb1
        have o6 := row_lt ho6 hb1
        have hle := hb2.size
        clear ho5 ho6 hb hb1
        have q1 : ¬ (k : Int) = 0 := by omega
        have q2 : ((k : Int) == 0) = false := by simpa using q1
        have q3 : IntKind.i64.wrap ((a : Int) + (k : Int)) = ((a + k : Nat) : Int) := by rw [IntWalk.i64_in _ (by omega)]; omega
        have HQ3 := Lib.hid q3
        clear q3
        go_wp2_with (first
          | (at_builtin; refine wpList_append_own _ (by rfl) (.tmp 25) (.tmp 27) 63 (by rfl) w.heap.size 2 i0 (.int .i64 0) 1 8 Tryd.underlying63 hi hz0 hz1 hz2 rfl (by decide) _ m _ (by simp [Act.eval]; rfl) (by exact o5.alloc _) ⟨w1.heap.size, 0, none⟩ 1 1 [.int .i64 (n : Int)] (by simp [Act.eval]) rfl (by exact news_new w1 #[_] _) (by simp [Value.oneCell']) (by unfold maxLen; omega) (by omega) (by simp; omega) ?_; intro v5 w3 hown5 hgrow5 _; have ⟨o63, hb3, hle3⟩ := ap_step hb2 o5 o6 (by decide) hgrow5)
          | (at_builtin; refine wpList_append_own _ (by rfl) (.tmp 29) (.tmp 31) 64 (by rfl) w.heap.size 3 i1 (.int .i64 0) 1 8 Tryd.underlying64 hj hy0 hy1 hy2 rfl (by decide) _ m _ (by simp [Act.eval]; rfl) (by exact o63.alloc _) ⟨w3.heap.size, 0, none⟩ 1 1 [.int .i64 (a : Int)] (by simp [Act.eval]) rfl (by exact news_new w3 #[_] _) (by simp [Value.oneCell']) (by unfold maxLen; omega) (by omega) (by simp; omega) ?_; intro v6 w4 hown6 hgrow6 _; have ⟨o54, hb4, hle4⟩ := ap_step hb3 o63 hown5 (by decide) hgrow6))
        go_roundw
        case rel =>
          have e : (pre ++ [(a, n)]).length = m + 1 := by rw [List.length_append, HM.out]; rfl
          refine ⟨a + k, pre ++ [(a, n)], HST, ?_, ?_, ?_, hb4⟩
          · exact congrArg (Value.int .i64) (by omega)
          · rw [e, ← cpV_snoc]; exact o54
          · rw [e, ← plV_snoc]; exact hown6
        case measure =>
          simp [intOf]
          omega
    · obtain rfl : a = s.size := by have := HA.out; rw [HSL.out] at this; omega
      have p1 : ¬ (s.size : Int) < (s.size : Int) := by omega
      have HL : Hid (cpsAt s.data.toList 0 = pre ∧ endZ (cpsAt s.data.toList 0) = (s.size : Int)) := HR.out.last (by rw [← HSL.out, List.drop_length]; rfl)
      go_wp2_with fail
      go_ret3
      refine ⟨u5, u6, s.size, rfl, HL.out.2, ?_, ?_, hb⟩
      · rw [HL.out.1]; exact ho5
      · rw [HL.out.1]; exact ho6
end Go.Proofs.YtcadklhjhjbhaaaDoor
