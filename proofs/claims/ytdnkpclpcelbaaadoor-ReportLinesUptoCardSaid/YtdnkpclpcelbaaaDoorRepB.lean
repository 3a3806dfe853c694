/- report.Line (layer 49). -/
import Derived.Test.YtdnkpclpcelbaaaDoorRepA
import Derived.Test.YtdnkpclpcelbaaaDoorBldA
import Derived.Lib.AppendIntMem
import Derived.RangeFuncRecord
import Derived.Test.YtdnkpclpcelbaaaDoorRepC
namespace Go.Proofs.YtdnkpclpcelbaaaDoor
set_option maxRecDepth 20000
set_option linter.unusedSimpArgs false
set_option linter.unusedVariables false
open Go.RowKit Go.Lib Go.Shelf
attribute [local go_sem] Oper.semAt_some
/-- A builder's WriteString, of lists of bytes. -/
theorem bwl_any (B b : Nat) (acc P : List UInt8) (w : World) (h : IsB B b (byteCells acc) w) (hlen : acc.length + P.length ≤ 100000000000) (hBw : B ≤ w.heap.size) :
    Calls Tryd.prog 54 #[.pointer (some ⟨b, 0, none⟩), .string ⟨P.toArray⟩] w fun e w' => e = .returned (.tuple #[.int .i64 (P.length : Int), .nilIface]) ∧ IsB B b (byteCells (acc ++ P)) w' ∧ Below B w w' := by
  have hz : (⟨P.toArray⟩ : ByteArray).size = P.length := by rw [Lib.size_eq]
  refine (bwrites_any B b _ ⟨P.toArray⟩ w h (by rw [byteCells_length, hz]; omega) hBw).mono fun e w' ⟨he, hb, h2, _⟩ => ⟨by rw [he, hz], ?_, h2⟩
  rw [byteCells_append]
  exact .inr hb
set_option maxRecDepth 100000 in
set_option maxHeartbeats 4000000 in
theorem line_any (v : Value) (L : List (List UInt8)) (w : World) (h : TxS w v L) (hL : L.length ≤ 100) (hs : ∀ i, (L.getD i []).length ≤ 10000000) :
    Calls Tryd.prog 24 #[v] w fun e w' => e = .returned (.string ⟨(lineL L).toArray⟩) ∧ Below w.heap.size w w' := by
  obtain ⟨a, cap, rfl, hc⟩ := h
  have KW := Lib.hid (fun bld acc P W h hl hs => bwl_any w.heap.size bld acc P W h hl hs)
  have KS := Lib.hid (fun bld l W h hs => Tryd.Builder_String_any_k w.heap.size bld l W h hs)
  have hacc : ∀ k, k ≤ 100 → (accL L k).length ≤ 2000000000 := fun k hk => by
    have := accL_len L 10000000 (by omega) hs k
    have h2 : k * (10000000 + 1) ≤ 100 * (10000000 + 1) := Nat.mul_le_mul_right _ hk
    omega
  have HA := Lib.hid hacc
  have HC := Lib.hid hc
  have HS := Lib.hid hs
  clear hc hacc hs
  go_enter Tryd.func24, Tryd.ntmps24
  obtain ⟨bld, hbld⟩ : ∃ x, w.heap.size = x := ⟨_, rfl⟩
  have hnew : (w.alloc (.cells #[.pointer none, .slice none 0 0] BTy)).heap[bld]? = some (.cells #[.pointer none, .slice none 0 0] BTy (0, 0)) := by rw [← hbld]; exact World.alloc_heap_new w _
  have hI0 : IsB w.heap.size bld (byteCells []) (w.alloc (.cells #[.pointer none, .slice none 0 0] BTy)) :=
    .inl ⟨by omega, _, hnew, World.ownsRowF_nil _ _ _ _, by simp [Value.ownBlock]⟩
  have hB0 : Below w.heap.size w (w.alloc (.cells #[.pointer none, .slice none 0 0] BTy)) := (Below.refl _ w).alloc (Nat.le_refl _) _
  have HI0 := Lib.hid hI0
  have HB0 := Lib.hid hB0
  clear hnew hI0 hB0
  go_wp2_with fail
  go_loopw [8] (fun p wr => ∃ k : Nat, p = .int .i64 (k : Int) ∧ k ≤ L.length ∧ IsB w.heap.size bld (byteCells (accL L k)) wr ∧ Below w.heap.size w wr)
    (fun p _ => L.length - (Go.RowKit.intOf p).toNat)
  case atStart => exact ⟨0, rfl, Nat.zero_le _, HI0.out, HB0.out⟩
  case round =>
    obtain ⟨k, rfl, hk, hI, hbw⟩ := hrel
    by_cases hlt : k < L.length
    · have p1 : (k : Int) < (L.length : Int) := by omega
      have w1 : IntKind.i64.wrap ((k : Int) + 1) = (k : Int) + 1 := IntWalk.i64_in _ (by omega)
      obtain ⟨b, off, ha, hbl, hcell⟩ := HC.out (by intro e; rw [e] at hlt; simp at hlt)
      subst ha
      have y := ((bcell hbw).1 b (off + k) hbl).trans (hcell k hlt)
      have hP := HS.out k
      have hstep : accL L (k + 1) = (if k = 0 then accL L k else accL L k ++ [32]) ++ wdL (L.getD k []) := rfl
      have hak := HA.out k (by omega)
      obtain ⟨P, eP⟩ : ∃ P, L.getD k [] = P := ⟨_, rfl⟩
      rw [eP] at y hP hstep
      obtain ⟨S, eS⟩ : ∃ S : ByteArray, (⟨P.toArray⟩ : ByteArray) = S := ⟨_, rfl⟩
      rw [eS] at y
      have hsz := hbw.size
      clear hcell eP
      have KP : ∀ acc W, IsB w.heap.size bld (byteCells acc) W → acc.length + P.length ≤ 100000000000 → w.heap.size ≤ W.heap.size → Calls Tryd.prog 54 #[.pointer (some ⟨bld, 0, none⟩), .string S] W fun e w' => e = .returned (.tuple #[.int .i64 (P.length : Int), .nilIface]) ∧ IsB w.heap.size bld (byteCells (acc ++ P)) w' ∧ Below w.heap.size W w' := fun acc W h hl hs => by
        rw [← eS]
        exact KW.out bld acc P W h hl hs
      have KB : ∀ acc W, IsB w.heap.size bld (byteCells acc) W → acc.length + 1 ≤ 100000000000 → w.heap.size ≤ W.heap.size → Calls Tryd.prog 54 #[.pointer (some ⟨bld, 0, none⟩), .string ⟨#[32]⟩] W fun e w' => e = .returned (.tuple #[.int .i64 1, .nilIface]) ∧ IsB w.heap.size bld (byteCells (acc ++ [32])) w' ∧ Below w.heap.size W w' := fun acc W h hl hs => KW.out bld acc [32] W h hl hs
      have KM : ∀ acc W, IsB w.heap.size bld (byteCells acc) W → acc.length + 1 ≤ 100000000000 → w.heap.size ≤ W.heap.size → Calls Tryd.prog 54 #[.pointer (some ⟨bld, 0, none⟩), .string ⟨#[45]⟩] W fun e w' => e = .returned (.tuple #[.int .i64 1, .nilIface]) ∧ IsB w.heap.size bld (byteCells (acc ++ [45])) w' ∧ Below w.heap.size W w' := fun acc W h hl hs => KW.out bld acc [45] W h hl hs
      have KP := Lib.hid KP
      have KB := Lib.hid KB
      have KM := Lib.hid KM
      have HI := Lib.hid hI
      have HBW := Lib.hid hbw
      have HST := Lib.hid hstep
      clear hI hbw hstep KW
      by_cases k0 : k = 0
      · have q0 : ¬ (0 : Int) < (k : Int) := by omega
        by_cases hP : P = []
        · have eS2 : S = ⟨#[]⟩ := by rw [← eS, hP]
          subst eS2
          have HF := Lib.hid (show accL L (k + 1) = accL L k ++ [45] by rw [HST.out, if_pos k0, wdL, if_pos hP])
          clear k0 eS hP
          go_wp2_with fail
          refine (KM.out (accL L k) wr HI.out (by omega) hsz).mono ?_
          rintro e w2 ⟨rfl, hI2, hb2⟩
          have HI2 := Lib.hid (show IsB w.heap.size bld (byteCells (accL L (k + 1))) w2 by rw [HF.out]; exact hI2)
          have HB2 := Lib.hid (HBW.out.trans hb2)
          clear hI2 hb2
          go_wp2_with fail
          go_roundw
          case rel => exact ⟨k + 1, rfl, hlt, HI2.out, HB2.out⟩
          case measure => simp [Go.RowKit.intOf]; omega
        · have hb := txt_ne P hP
          rw [eS] at hb
          have HF := Lib.hid (show accL L (k + 1) = accL L k ++ P by rw [HST.out, if_pos k0, wdL, if_neg hP])
          clear k0 eS hP
          go_wp2_with fail
          refine (KP.out (accL L k) wr HI.out (by omega) hsz).mono ?_
          rintro e w2 ⟨rfl, hI2, hb2⟩
          have HI2 := Lib.hid (show IsB w.heap.size bld (byteCells (accL L (k + 1))) w2 by rw [HF.out]; exact hI2)
          have HB2 := Lib.hid (HBW.out.trans hb2)
          clear hI2 hb2
          go_wp2_with fail
          go_roundw
          case rel => exact ⟨k + 1, rfl, hlt, HI2.out, HB2.out⟩
          case measure => simp [Go.RowKit.intOf]; omega
      · have q0 : (0 : Int) < (k : Int) := by omega
        by_cases hP : P = []
        · have eS2 : S = ⟨#[]⟩ := by rw [← eS, hP]
          subst eS2
          have HF := Lib.hid (show accL L (k + 1) = (accL L k ++ [32]) ++ [45] by rw [HST.out, if_neg k0, wdL, if_pos hP])
          clear k0 eS hP
          go_wp2_with fail
          refine (KB.out (accL L k) wr HI.out (by omega) hsz).mono ?_
          rintro e w2 ⟨rfl, hI2, hb2⟩
          have HI2 := Lib.hid hI2
          have HB2 := Lib.hid (HBW.out.trans hb2)
          clear hI2 hb2
          go_wp2_with fail
          refine (KM.out (accL L k ++ [32]) w2 HI2.out (by simp; omega) HB2.out.size).mono ?_
          rintro e w3 ⟨rfl, hI3, hb3⟩
          have HI3 := Lib.hid (show IsB w.heap.size bld (byteCells (accL L (k + 1))) w3 by rw [HF.out]; exact hI3)
          have HB3 := Lib.hid (HB2.out.trans hb3)
          clear hI3 hb3
          go_wp2_with fail
          go_roundw
          case rel => exact ⟨k + 1, rfl, hlt, HI3.out, HB3.out⟩
          case measure => simp [Go.RowKit.intOf]; omega
        · have hb := txt_ne P hP
          rw [eS] at hb
          have HF := Lib.hid (show accL L (k + 1) = (accL L k ++ [32]) ++ P by rw [HST.out, if_neg k0, wdL, if_neg hP])
          clear k0 eS hP
          go_wp2_with fail
          refine (KB.out (accL L k) wr HI.out (by omega) hsz).mono ?_
          rintro e w2 ⟨rfl, hI2, hb2⟩
          have HI2 := Lib.hid hI2
          have HB2 := Lib.hid (HBW.out.trans hb2)
          clear hI2 hb2
          go_wp2_with fail
          refine (KP.out (accL L k ++ [32]) w2 HI2.out (by simp; omega) HB2.out.size).mono ?_
          rintro e w3 ⟨rfl, hI3, hb3⟩
          have HI3 := Lib.hid (show IsB w.heap.size bld (byteCells (accL L (k + 1))) w3 by rw [HF.out]; exact hI3)
          have HB3 := Lib.hid (HB2.out.trans hb3)
          clear hI3 hb3
          go_wp2_with fail
          go_roundw
          case rel => exact ⟨k + 1, rfl, hlt, HI3.out, HB3.out⟩
          case measure => simp [Go.RowKit.intOf]; omega
    · have p1 : ¬ (k : Int) < (L.length : Int) := by omega
      have hak := HA.out k (by omega)
      have KT : ∀ acc W, IsB w.heap.size bld (byteCells acc) W → acc.length + 1 ≤ 100000000000 → w.heap.size ≤ W.heap.size → Calls Tryd.prog 54 #[.pointer (some ⟨bld, 0, none⟩), .string ⟨#[10]⟩] W fun e w' => e = .returned (.tuple #[.int .i64 1, .nilIface]) ∧ IsB w.heap.size bld (byteCells (acc ++ [10])) w' ∧ Below w.heap.size W w' := fun acc W h hl hs => KW.out bld acc [10] W h hl hs
      have HF := Lib.hid (show lineL L = accL L k ++ [10] by rw [lineL, show L.length = k by omega])
      have KT := Lib.hid KT
      have HI := Lib.hid hI
      have HBW := Lib.hid hbw
      clear hI hbw KW
      go_wp2_with fail
      refine (KT.out (accL L k) wr HI.out (by omega) HBW.out.size).mono ?_
      rintro e w2 ⟨rfl, hI2, hb2⟩
      have HI2 := Lib.hid (show IsB w.heap.size bld (byteCells (lineL L)) w2 by rw [HF.out]; exact hI2)
      have HB2 := Lib.hid (HBW.out.trans hb2)
      clear hI2 hb2
      go_wp2_with fail
      refine (KS.out bld (lineL L) w2 HI2.out HB2.out.size).mono ?_
      rintro e w3 ⟨rfl, -, hb3, -⟩
      go_wp2_with fail
      go_ret
      exact ⟨rfl, HB2.out.trans hb3⟩
end Go.Proofs.YtdnkpclpcelbaaaDoor
