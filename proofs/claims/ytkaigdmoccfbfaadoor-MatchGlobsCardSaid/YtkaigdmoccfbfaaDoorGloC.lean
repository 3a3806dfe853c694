/- The reference's Glob (layer 52): what it answers. -/
import Derived.Test.YtkaigdmoccfbfaaDoorGloB
import Derived.ProofKit
import Derived.Laws.Rows
import Derived.Deep.OwnRows
namespace Go.Proofs.YtkaigdmoccfbfaaDoor
open Go.RowKit
def rowT (p : Nat → Bool) (N : Nat) : List Value := (List.range N).map fun k => .bool (p k)
theorem rowT_get (p : Nat → Bool) (N k : Nat) (h : k < N) : (rowT p N)[k]? = some (.bool (p k)) := by
  unfold rowT
  rw [List.getElem?_map, List.getElem?_range h]
  rfl
def updT (p : Nat → Bool) (i : Nat) (x : Bool) (k : Nat) : Bool := if k = i then x else p k
theorem rowT_len (p : Nat → Bool) (N : Nat) : (rowT p N).length = N := by unfold rowT; simp
theorem rowT_set (p : Nat → Bool) (N i : Nat) (x : Bool) : (rowT p N).set i (.bool x) = rowT (updT p i x) N := by
  unfold rowT
  refine List.ext_getElem (by simp) fun j h1 h2 => ?_
  rw [List.getElem_set]
  simp only [List.getElem_map, List.getElem_range]
  unfold updT
  by_cases h : i = j
  · subst h; simp
  · have h' : ¬ j = i := fun e => h e.symm
    simp [h, h']
theorem rowT_made (n : Nat) : madeCells #[.bool false] n = (rowT (fun _ => false) n).toArray := by
  apply Array.ext
  · rw [size_madeCells]; simp [rowT_len]
  · intro i h1 h2
    have hi : i < n := by simpa [size_madeCells] using h1
    simp [madeCells, rowT, Nat.mod_one]
theorem Tryd.info_bool : (Tryd.prog.info? 4).map (fun i => (i.zero, i.size, i.bytes)) = some (some (.bool false), 1, 1) := by kernel_rfl
def mkT (w : World) (N : Nat) : World := w.alloc (.cells (rowT (fun _ => false) N).toArray 4)
theorem make_bools (N : Nat) (Z : Int) (hz : Z = (N : Int)) (hN : N ≤ 1000) (w : World) : (Instr.makeSlice 30 (.int .i64 Z) (.int .i64 Z)).run Tryd.prog w = .ok (.slice (some ⟨w.heap.size, 0, none⟩) N N) (mkT w N) := by
  unfold mkT
  rw [← rowT_made, hz]
  exact run_make_row' (P := Tryd.prog) 30 4 (.bool false) 1 Tryd.underlying30 Tryd.info_bool rfl .i64 .i64 N (by omega) (by omega) w
theorem arr_set {w : World} {b i : Nat} {t : TypeId} {L : List Value} (h : w.heap[b]? = some (.cells L.toArray t (0, 0))) (v : Value) : (w.setCell ⟨b, i, none⟩ v).heap[b]? = some (.cells (L.set i v).toArray t (0, 0)) := by
  have hlt : b < w.heap.size := by
    apply Nat.lt_of_not_le
    intro hle
    rw [Array.getElem?_eq_none hle] at h
    simp at h
  have h' : w.heap[b] = .cells L.toArray t (0, 0) := by simpa [Array.getElem?_eq_getElem hlt] using h
  show (w.heap.modify b _)[b]? = _
  rw [Array.getElem?_eq_getElem (by simpa using hlt), Array.getElem_modify_self, h']
  simp
/-- Block g is a row of N truths. -/
def IsT (w : World) (g N : Nat) (f : Nat → Bool) : Prop := w.heap[g]? = some (.cells (rowT f N).toArray 4 (0, 0))
theorem IsT.set {w : World} {g N : Nat} {f : Nat → Bool} (h : IsT w g N f) (i : Nat) (x : Bool) : IsT (w.setCell ⟨g, i, none⟩ (.bool x)) g N (updT f i x) := by
  have h2 := arr_set (i := i) h (.bool x)
  rw [rowT_set] at h2
  exact h2
theorem IsT.far {w : World} {g g2 N i : Nat} {f : Nat → Bool} (h : IsT w g N f) (hne : g ≠ g2) (v : Value) : IsT (w.setCell ⟨g2, i, none⟩ v) g N f := (Below.heap_setCell w ⟨g2, i, none⟩ v g hne).trans h
theorem IsT.lt {w : World} {g N : Nat} {f : Nat → Bool} (h : IsT w g N f) : g < w.heap.size := by
  apply Nat.lt_of_not_le
  intro hle
  unfold IsT at h
  rw [Array.getElem?_eq_none hle] at h
  simp at h
theorem IsT.keep {w w' : World} {g N : Nat} {f : Nat → Bool} (h : IsT w g N f) (hb : Below w.heap.size w w') : IsT w' g N f := (hb.block g h.lt).trans h
theorem mkT_is (w : World) (N : Nat) : IsT (mkT w N) w.heap.size N (fun _ => false) := alloc_new w _
theorem mkT_below (w : World) (N : Nat) : Below w.heap.size w (mkT w N) := (Below.refl _ _).alloc (Nat.le_refl _) _
set_option maxRecDepth 20000 in
set_option maxHeartbeats 2000000 in
theorem rglob_any (p s : ByteArray) (w : World) (hp : p.size ≤ 500) (hs : s.size ≤ 500) :
    Calls Tryd.prog 6 #[.string p, .string s] w fun e w' => ∃ b, e = .returned (.bool b) ∧ (b = true ↔ Mt p.data.toList s.data.toList) ∧ Below w.heap.size w w' := by
  obtain ⟨n, hn⟩ : ∃ n, s.size = n := ⟨_, rfl⟩
  obtain ⟨l, hl⟩ : ∃ l, p.size = l := ⟨_, rfl⟩
  have hsn : s.data.toList.length = n := by rw [← hn]; exact (Lib.size_eq s).symm
  have hpl : p.data.toList.length = l := by rw [← hl]; exact (Lib.size_eq p).symm
  have mk := make_bools (n + 1) ((n : Int) + 1) (by omega) (by omega)
  have m1 := mkT_is w (n + 1)
  have m2 := mkT_below w (n + 1)
  have mk1 := mk w
  have MK := Lib.hid mk
  clear mk
  generalize mkT w (n + 1) = w1 at *
  obtain ⟨c0, f0⟩ := arr_get m1 (rowT_get (fun _ => false) (n + 1) 0 (by omega))
  have T1 := Lib.hid (IsT.set m1 0 true)
  have B1 := Lib.hid (m2.setCell (p := ⟨w.heap.size, 0, none⟩) (Nat.le_refl _) (.bool true))
  have n1 : (n : Int) ≤ 500 := by omega
  have l1 : (l : Int) ≤ 500 := by omega
  clear m1 m2
  go_enter Tryd.func6, Tryd.ntmps6
  go_wp2_with fail
  go_loopw [5, 6] (fun x y W => ∃ i g : Nat, ∃ f : Nat → Bool, i ≤ l ∧ x = .slice (some ⟨g, 0, none⟩) (n + 1) (n + 1) ∧ y = .int .i64 (i : Int) ∧ w.heap.size ≤ g ∧ IsT W g (n + 1) f ∧ Below w.heap.size w W ∧ ∀ k, k ≤ n → (f k = true ↔ Mt (p.data.toList.take i) (s.data.toList.take k))) (fun _ y _ => l - (intOf y).toNat)
  case atStart =>
    refine ⟨0, w.heap.size, _, by omega, rfl, rfl, Nat.le_refl _, T1.out, B1.out, fun k hk => ?_⟩
    rw [List.take_zero]
    show _ ↔ s.data.toList.take k = []
    unfold updT
    cases k with
    | zero => simp
    | succ k =>
      rw [if_neg (by omega)]
      constructor
      · intro h; cases h
      · intro h
        have h2 := congrArg List.length h
        rw [List.length_take, hsn] at h2
        simp only [List.length_nil] at h2
        omega
  case round =>
    clear T1 B1 c0 f0 mk1
    obtain ⟨i, g, f, hi, rfl, rfl, hg, hT, hB, hf⟩ := hrel
    by_cases hil : i < l
    · have hil' : (i : Int) < (l : Int) := by omega
      have mk1 := MK.out wr
      have m1 := mkT_is wr (n + 1)
      have m2 := mkT_below wr (n + 1)
      have hip : i < p.data.toList.length := by omega
      have hpi : p[i]'(by omega) = p.data.toList[i] := rfl
      have hne : g ≠ wr.heap.size := by have := hT.lt; omega
      have HF := Lib.hid hf
      have T0 := Lib.hid (hT.keep m2)
      have B0 := Lib.hid (hB.trans (m2.mono hB.size))
      have W0 := Lib.hid hB.size
      have T1 := Lib.hid m1
      have htk : p.data.toList.take (i + 1) = p.data.toList.take i ++ [p.data.toList[i]] := take_succ_at hip
      clear hf hT hB m2 m1
      generalize mkT wr (n + 1) = w2 at *
      obtain ⟨g2, hg2⟩ : ∃ g2, wr.heap.size = g2 := ⟨_, rfl⟩
      rw [hg2] at mk1 hne T1 W0
      go_wp2_with fail
      clear mk1
      go_loopw [8] (fun y W => ∃ k : Nat, ∃ h : Nat → Bool, k ≤ n + 1 ∧ y = .int .i64 (k : Int) ∧ IsT W g (n + 1) f ∧ IsT W g2 (n + 1) h ∧ Below w.heap.size w W ∧ (∀ j, j < k → (h j = true ↔ Mt (p.data.toList.take (i + 1)) (s.data.toList.take j))) ∧ ∀ j, k ≤ j → h j = false) (fun y _ => n + 1 - (intOf y).toNat)
      case atStart => exact ⟨0, _, by omega, rfl, T0.out, T1.out, B0.out, fun j hj => by omega, fun _ _ => rfl⟩
      case round =>
        clear T0 T1 B0
        obtain ⟨k, h, hk, rfl, hT, hT2, hB, hh, hno⟩ := hrel
        by_cases hkn : k ≤ n
        · obtain ⟨c, hc⟩ : ∃ c : UInt8, p.data.toList[i] = c := ⟨_, rfl⟩
          rw [hc] at hpi htk
          have HTK := Lib.hid htk
          have HT := Lib.hid hT
          have HT2 := Lib.hid hT2
          have HB := Lib.hid hB
          have HH := Lib.hid hh
          have HNO := Lib.hid hno
          have fin : ∀ v : Bool, (v = true ↔ Mt (p.data.toList.take i ++ [c]) (s.data.toList.take k)) → (∀ j, j < k + 1 → (updT h k v j = true ↔ Mt (p.data.toList.take (i + 1)) (s.data.toList.take j))) ∧ ∀ j, k + 1 ≤ j → updT h k v j = false := by
            intro v hv
            refine ⟨fun j hj => ?_, fun j hj => ?_⟩
            · unfold updT
              by_cases e : j = k
              · subst e; rw [if_pos rfl, HTK.out]; exact hv
              · rw [if_neg e]; exact HH.out j (by omega)
            · unfold updT
              rw [if_neg (by omega)]
              exact HNO.out j (by omega)
          have FIN := Lib.hid fin
          have w0 : w.heap.size ≤ g2 := W0.out
          by_cases h42 : c = 42
          · subst h42
            have q0 : ((42 : UInt8).toNat : Int) = 42 := rfl
            have hrow := row_star (p.data.toList.take i) s.data.toList k (by omega)
            have hfk2 := HF.out k hkn
            rcases Nat.eq_zero_or_pos k with rfl | hk0
            · obtain ⟨cf, ff⟩ := arr_get hT (rowT_get f (n + 1) 0 (by omega))
              obtain ⟨ch, fh⟩ := arr_get hT2 (rowT_get h (n + 1) 0 (by omega))
              have hv : f 0 = true ↔ Mt (p.data.toList.take i ++ [42]) (s.data.toList.take 0) := by
                rw [hrow, hfk2]; simp
              have HV := Lib.hid hv
              clear hc htk hT hT2 hB hh hno fin ff hv hrow hfk2
              cases hfk : f 0 <;>
              · rw [hfk] at cf HV
                go_wp2_with fail
                go_roundw
                case rel => exact ⟨1, updT h 0 _, by omega, rfl, HT.out.far hne _, HT2.out.set 0 _, HB.out.setCell w0 _, FIN.out _ HV.out⟩
                case measure => simp [intOf]
            · obtain ⟨k, rfl⟩ : ∃ k', k = k' + 1 := ⟨k - 1, by omega⟩
              obtain ⟨cf, ff⟩ := arr_get hT (rowT_get f (n + 1) (k + 1) (by omega))
              obtain ⟨ch, fh⟩ := arr_get hT2 (rowT_get h (n + 1) (k + 1) (by omega))
              obtain ⟨cl, fl⟩ := arr_get hT2 (rowT_get h (n + 1) k (by omega))
              have hv : (f (k + 1) || h k) = true ↔ Mt (p.data.toList.take i ++ [42]) (s.data.toList.take (k + 1)) := by
                rw [hrow, ← hfk2, Bool.or_eq_true, Nat.add_sub_cancel, ← HTK.out, ← HH.out k (by omega)]
                constructor
                · rintro (h1 | h1)
                  · exact .inl h1
                  · exact .inr ⟨by omega, h1⟩
                · rintro (h1 | ⟨_, h1⟩)
                  · exact .inl h1
                  · exact .inr h1
              have HV := Lib.hid hv
              have hkn' : (k : Int) + 1 ≤ (n : Int) := by omega
              clear hc htk hT hT2 hB hh hno fin ff fl hv hrow hfk2
              cases hfk : f (k + 1) <;>
              · rw [hfk] at cf HV
                generalize hhk : h k = hb at *
                go_wp2_with fail
                go_roundw
                case rel => exact ⟨k + 2, updT h (k + 1) _, by omega, congrArg (Value.int .i64) (by omega), HT.out.far hne _, HT2.out.set (k + 1) _, HB.out.setCell w0 _, FIN.out _ HV.out⟩
                case measure =>
                  simp [intOf]
                  omega
          · have q0 : ¬ ((c.toNat : Int) = 42) := by
              intro e
              apply h42
              apply UInt8.toNat_inj.1
              have e2 : (42 : UInt8).toNat = 42 := rfl
              omega
            have hrow := row_byte (p.data.toList.take i) s.data.toList c h42 k (by omega)
            rcases Nat.eq_zero_or_pos k with rfl | hk0
            · clear hc htk hT hT2 hB hh hno fin hrow
              go_wp2_with fail
              go_roundw
              case rel =>
                refine ⟨1, h, by omega, rfl, HT.out, HT2.out, HB.out, fun j hj => ?_, fun j hj => HNO.out j (by omega)⟩
                obtain rfl : j = 0 := by omega
                rw [HNO.out 0 (by omega), HTK.out, row_byte _ _ c h42 0 (by omega)]
                constructor
                · intro h1; cases h1
                · rintro ⟨h1, _⟩; omega
              case measure => simp [intOf]
            · obtain ⟨k, rfl⟩ : ∃ k', k = k' + 1 := ⟨k - 1, by omega⟩
              obtain ⟨cf, ff⟩ := arr_get hT (rowT_get f (n + 1) k (by omega))
              obtain ⟨ch, fh⟩ := arr_get hT2 (rowT_get h (n + 1) (k + 1) (by omega))
              have hks : k < s.data.toList.length := by omega
              have hsk : s[k]'(by omega) = s.data.toList[k] := rfl
              have hfk2 := HF.out k (by omega)
              have hkn' : (k : Int) + 1 ≤ (n : Int) := by omega
              have hkn2 : (k : Int) < (n : Int) := by omega
              obtain ⟨d, hd⟩ : ∃ d : UInt8, s.data.toList[k] = d := ⟨_, rfl⟩
              have hv : (f k = true ∧ d = c) ↔ Mt (p.data.toList.take i ++ [c]) (s.data.toList.take (k + 1)) := by
                rw [hrow, hfk2, ← hd]
                constructor
                · rintro ⟨h1, h2⟩
                  exact ⟨by omega, h1, h2⟩
                · rintro ⟨_, h1, h2⟩
                  exact ⟨h1, h2⟩
              rw [hd] at hsk
              have HV := Lib.hid hv
              clear hc htk hT hT2 hB hh hno fin ff hv hrow hfk2 hd
              have B' := fun v => (HB.out.drew).setCell (p := ⟨g2, k + 1, none⟩) w0 (.bool v)
              have HB' := Lib.hid B'
              clear B'
              cases hfk : f k with
              | false =>
                rw [hfk] at cf HV
                have FV := Lib.hid (FIN.out false ⟨(fun h1 => by cases h1), fun h1 => by have := (HV.out.2 h1).1; cases this⟩)
                go_wp2_with fail
                go_region
                all_goals
                  go_wp2_with fail
                  go_roundw
                  case rel => exact ⟨k + 2, updT h (k + 1) false, by omega, congrArg (Value.int .i64) (by omega), HT.out.far hne _, HT2.out.set (k + 1) _, HB'.out _, FV.out⟩
                  case measure =>
                    simp [intOf]
                    omega
              | true =>
                rw [hfk] at cf HV
                by_cases hdc : d = c
                · subst hdc
                  have FV := Lib.hid (FIN.out true ⟨(fun _ => HV.out.1 ⟨rfl, rfl⟩), fun _ => rfl⟩)
                  go_wp2_with fail
                  go_region
                  all_goals
                    go_wp2_with fail
                    go_roundw
                    case rel => exact ⟨k + 2, updT h (k + 1) true, by omega, congrArg (Value.int .i64) (by omega), HT.out.far hne _, HT2.out.set (k + 1) _, HB'.out _, FV.out⟩
                    case measure =>
                      simp [intOf]
                      omega
                · have q1 : ¬ ((d.toNat : Int) = (c.toNat : Int)) := by
                    intro e
                    exact hdc (UInt8.toNat_inj.1 (by omega))
                  clear q1
                  have FV := Lib.hid (FIN.out false ⟨(fun h1 => by cases h1), fun h1 => absurd (HV.out.2 h1).2 hdc⟩)
                  go_wp2_with fail
                  go_region
                  all_goals
                    go_wp2_with fail
                    rw [show ((d.toNat : Int) == (c.toNat : Int)) = false by rw [beq_eq_false_iff_ne]; intro e; exact hdc (UInt8.toNat_inj.1 (by omega))]
                    go_roundw
                    case rel => exact ⟨k + 2, updT h (k + 1) false, by omega, congrArg (Value.int .i64) (by omega), HT.out.far hne _, HT2.out.set (k + 1) _, HB'.out _, FV.out⟩
                    case measure =>
                      simp [intOf]
                      omega
        · have hkn' : ¬ (k : Int) ≤ (n : Int) := by omega
          have FI := Lib.hid (show w.heap.size ≤ g2 ∧ IsT wr g2 (n + 1) h ∧ Below w.heap.size w wr ∧ ∀ k, k ≤ n → (h k = true ↔ Mt (p.data.toList.take (i + 1)) (s.data.toList.take k)) from ⟨W0.out, hT2, hB, fun j hj => hh j (by omega)⟩)
          clear hT hT2 hB hh hno
          go_wp2_with fail
          go_roundw
          case rel => exact ⟨i + 1, g2, h, by omega, rfl, rfl, FI.out⟩
          case measure =>
            simp [intOf]
            omega
    · have e : i = l := by omega
      subst e
      obtain ⟨cf, ff⟩ := arr_get hT (rowT_get f (n + 1) n (by omega))
      have hfn := hf n (Nat.le_refl _)
      rw [List.take_of_length_le (by omega), List.take_of_length_le (by omega)] at hfn
      have HFN := Lib.hid hfn
      have HB := Lib.hid hB
      clear hf hfn hB hT
      generalize f n = b at *
      go_wp2_with fail
      go_ret
      exact ⟨b, rfl, HFN.out, HB.out⟩
end Go.Proofs.YtkaigdmoccfbfaaDoor
