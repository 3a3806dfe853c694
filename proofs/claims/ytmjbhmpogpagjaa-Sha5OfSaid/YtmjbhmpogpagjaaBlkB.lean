/- block.Pad: its walk. -/
import Derived.Test.YtmjbhmpogpagjaaBlkA
import Derived.Below
namespace Go.Proofs.Ytmjbhmpogpagjaa
set_option maxRecDepth 20000
set_option linter.unusedSimpArgs false
set_option linter.unusedVariables false
open Go.RowKit
theorem arr_get {w : World} {b i : Nat} {t : TypeId} {L : List Value} {v : Value} (h : w.heap[b]? = some (.cells L.toArray t (0, 0))) (hi : L[i]? = some v) : w.cell? ⟨b, i, none⟩ = some v ∧ w.frozen? ⟨b, i, none⟩ = false :=
  ⟨by simp [World.cell?, h, hi], by simp [World.frozen?, h]⟩
theorem arr_set {w : World} {b i : Nat} {t : TypeId} {L : List Value} (h : w.heap[b]? = some (.cells L.toArray t (0, 0))) (v : Value) : (w.setCell ⟨b, i, none⟩ v).heap[b]? = some (.cells (L.set i v).toArray t (0, 0)) := by
  have hlt : b < w.heap.size := by
    apply Nat.lt_of_not_le
    intro hle
    rw [Array.getElem?_eq_none hle] at h
    simp at h
  have h' : w.heap[b] = .cells L.toArray t (0, 0) := by simpa [Array.getElem?_eq_getElem hlt] using h
  show (w.heap.modify b _)[b]? = _
  rw [Array.getElem?_eq_getElem (by simpa using hlt), Array.getElem_modify_self, h']
  simp
theorem alloc_new (w : World) (o : Obj) : (w.alloc o).heap[w.heap.size]? = some o := by
  show (w.heap.push o)[w.heap.size]? = some o
  simp
def mkB (w : World) (N : Nat) : World := w.alloc (.cells (rowB (fun _ => 0) N).toArray 5)
theorem pow256_pos (k : Nat) : 0 < 256 ^ k := Nat.pow_pos (by decide)
/-- The row as it stands when j bytes are put. -/
def putP (n L j k : Nat) : Nat := if k = 0 then 128 else if L - 1 - k < j then 8 * n / 256 ^ (L - 1 - k) % 256 else 0
set_option maxHeartbeats 2000000 in
theorem pad_in (n size width : Nat) (w : World) (h1 : n ≤ 1099511627776) (h2 : 16 ≤ size) (h3 : size ≤ 256) (h4 : 8 ≤ width) (h5 : width ≤ 16) :
    Calls Try.prog 19 #[.int .i64 (n : Int), .int .i64 (size : Int), .int .i64 (width : Int)] w fun e w' => e = .returned (.string (padS n size width)) ∧ Below w.heap.size w w' := by
  obtain ⟨q, hq⟩ : ∃ q, (n + 1 + width) % size = q := ⟨_, rfl⟩
  obtain ⟨z, hz⟩ : ∃ z, (size - q) % size = z := ⟨_, rfl⟩
  obtain ⟨L, hL⟩ : ∃ L, padN n size width = L := ⟨_, rfl⟩
  have hq9 : q < size := by rw [← hq]; exact Nat.mod_lt _ (by omega)
  have hz9 : z < size := by rw [← hz]; exact Nat.mod_lt _ (by omega)
  have hL1 : 1 + z + width = L := by rw [← hL]; unfold padN; rw [hq, hz]
  have i1 : ¬ (n : Int) < 0 := by omega
  have i2 : ¬ (1099511627776 : Int) < (n : Int) := by omega
  have i3 : ¬ (size : Int) < 16 := by omega
  have i4 : ¬ (256 : Int) < (size : Int) := by omega
  have i5 : ¬ (width : Int) < 8 := by omega
  have i6 : ¬ (16 : Int) < (width : Int) := by omega
  have i7 : ¬ (size : Int) = 0 := by omega
  have r1 : IntKind.i64.wrap ((n : Int) + 1) = (n : Int) + 1 := IntWalk.i64_in _ (by omega)
  have r2 : IntKind.i64.wrap ((n : Int) + 1 + (width : Int)) = (n : Int) + 1 + (width : Int) := IntWalk.i64_in _ (by omega)
  have t1 : ((n : Int) + 1 + (width : Int)).tmod (size : Int) = (q : Int) := by
    rw [show (n : Int) + 1 + (width : Int) = ((n + 1 + width : Nat) : Int) by omega, Int.tmod_eq_emod_of_nonneg (by omega), ← Int.natCast_emod, hq]
  have t2 : ((size : Int) - (q : Int)).tmod (size : Int) = (z : Int) := by
    rw [show (size : Int) - (q : Int) = ((size - q : Nat) : Int) by omega, Int.tmod_eq_emod_of_nonneg (by omega), ← Int.natCast_emod, hz]
  have r3 : 1 + (z : Int) + (width : Int) = (L : Int) := by omega
  have mk : (Instr.makeSlice 51 (.int .i64 (L : Int)) (.int .i64 (L : Int))).run Try.prog w = .ok (.slice (some ⟨w.heap.size, 0, none⟩) L L) (mkB w L) := make_bytes L (L : Int) rfl (by omega) w
  have mh : (mkB w L).heap[w.heap.size]? = some (.cells (rowB (fun _ => 0) L).toArray 5 (0, 0)) := alloc_new w _
  have mb : Below w.heap.size w (mkB w L) := (Below.refl _ _).alloc (Nat.le_refl _) _
  generalize mkB w L = X at *
  obtain ⟨c0, f0⟩ := arr_get mh (rowB_get (fun _ => 0) L 0 (by omega))
  have MS := Lib.hid (arr_set (i := 0) mh (.int .u8 (128 : Nat)))
  have MB := Lib.hid (mb.setCell (p := ⟨w.heap.size, 0, none⟩) (Nat.le_refl _) (.int .u8 (128 : Nat)))
  have l1 : 9 ≤ (L : Int) := by omega
  have l2 : (L : Int) ≤ 300 := by omega
  have hq8 : (q : Int) < (size : Int) := by omega
  have hz8 : (z : Int) < (size : Int) := by omega
  clear mh mb hz hq
  go_enter Try.func19, Try.ntmps19
  go_wp2_with fail
  go_loopw [9, 10] (fun i r wr => ∃ j : Nat, ∃ p : Nat → Nat, j ≤ 6 ∧ i = .int .i64 ((L : Int) - 1 - (j : Int)) ∧ r = .int .i64 ((8 * n / 256 ^ j : Nat) : Int) ∧ (∀ k, k < L → p k = putP n L j k) ∧ wr.heap[w.heap.size]? = some (.cells (rowB p L).toArray 5 (0, 0)) ∧ Below w.heap.size w wr) (fun _ r _ => (intOf r).toNat)
  case atStart =>
    refine ⟨0, updB (fun _ => 0) 0 128, by omega, by rw [show ((0 : Nat) : Int) = 0 from rfl, Int.sub_zero], ?_, ?_, ?_, MB.out⟩
    · rw [Nat.pow_zero, Nat.div_one]; exact congrArg (Value.int .i64) (by omega)
    · intro k _
      unfold updB putP
      split
      · rfl
      · rw [if_neg (by omega)]
    · have h := MS.out
      rw [rowB_set] at h
      exact h
  case round =>
    clear MS MB c0 f0 mk
    obtain ⟨j, p, hj, rfl, rfl, hp, hr, hb⟩ := hrel
    obtain ⟨a, ha⟩ : ∃ a, a + 1 + j = L := ⟨L - 1 - j, by omega⟩
    have ea : (L : Int) - 1 - (j : Int) = (a : Int) := by omega
    rw [ea]
    have hR0 : 8 * n / 256 ^ 6 = 0 := Nat.div_eq_of_lt (by omega)
    have hR9 : 8 * n / 256 ^ j ≤ 8 * n := Nat.div_le_self _ _
    have hRs : 8 * n / 256 ^ (j + 1) = 8 * n / 256 ^ j / 256 := by rw [Nat.pow_succ, Nat.div_div_eq_div_mul]
    have hj6 : 0 < 8 * n / 256 ^ j → j < 6 := fun h => by
      apply Nat.lt_of_not_le
      intro h6
      obtain rfl : j = 6 := by omega
      omega
    have HP := Lib.hid hp
    have HJ := Lib.hid hRs
    obtain ⟨R, hR⟩ : ∃ R, 8 * n / 256 ^ j = R := ⟨_, rfl⟩
    rw [hR] at hR9 hj6
    have HR := Lib.hid hR
    clear hp hRs hR0
    by_cases hlt : 0 < R
    · have hj7 := hj6 hlt
      obtain ⟨D, hD⟩ : ∃ D, R % 256 = D := ⟨_, rfl⟩
      obtain ⟨c0, f0⟩ := arr_get hr (rowB_get p L a (by omega))
      have HS := Lib.hid (arr_set (i := a) hr (.int .u8 (D : Int)))
      have HB := Lib.hid (hb.setCell (p := ⟨w.heap.size, a, none⟩) (Nat.le_refl _) (.int .u8 (D : Int)))
      have r4 : IntKind.u8.wrap (R : Int) = (D : Int) := by rw [← hD]; simp [IntKind.wrap, IntKind.signed, IntKind.bits]
      have q1 : (a : Int) < (L : Int) := by omega
      have q2 : (0 : Int) < (R : Int) := by omega
      have q3 : (R : Int) ≤ 8796093022208 := by omega
      have HD := Lib.hid hD
      rw [hR]
      clear hr hb hD hR
      go_wp2_with fail
      go_roundw
      case rel =>
        refine ⟨j + 1, updB p a D, by omega, congrArg (Value.int .i64) (by omega), congrArg (Value.int .i64) (by rw [HJ.out, HR.out]; omega), ?_, ?_, HB.out⟩
        · intro k hk
          unfold updB
          split
          · rename_i h
            subst h
            unfold putP
            rw [if_neg (by omega), if_pos (by omega), show L - 1 - k = j by omega, HR.out, HD.out]
          · rename_i h
            rw [HP.out k hk]
            unfold putP
            by_cases k0 : k = 0
            · rw [if_pos k0, if_pos k0]
            · rw [if_neg k0, if_neg k0]
              by_cases k1 : L - 1 - k < j
              · rw [if_pos k1, if_pos (by omega)]
              · rw [if_neg k1, if_neg (by omega)]
        · have h := HS.out
          rw [rowB_set] at h
          exact h
      case measure =>
        simp [intOf]
        omega
    · have hR8 : R = 0 := by omega
      have hl : ((List.range L).map fun k => UInt8.ofNat (padB n L k)).length = L := by simp
      have ks := run_convert_bytes_back (P := Try.prog) wr 51 9 5 ⟨w.heap.size, 0, none⟩ L ((List.range L).map fun k => UInt8.ofNat (padB n L k)) Try.underlying51 Try.underlying5 Try.underlying9 (fun k hk => by
        rw [hl] at hk
        have hadd : (⟨w.heap.size, 0, none⟩ : Addr).add k = ⟨w.heap.size, k, none⟩ := by unfold Addr.add; split <;> simp_all
        rw [hadd, (arr_get hr (rowB_get p L k hk)).1, HP.out k hk]
        have e : putP n L j k = padB n L k := by
          unfold putP padB
          split
          · rfl
          · split
            · rfl
            · have h : 8 * n / 256 ^ (L - 1 - k) = 0 := by
                obtain ⟨d, hd⟩ : ∃ d, L - 1 - k = j + d := ⟨L - 1 - k - j, by omega⟩
                rw [hd, Nat.pow_add, ← Nat.div_div_eq_div_mul, HR.out, hR8, Nat.zero_div]
              rw [h]
        have h256 : padB n L k < 256 := by
          unfold padB
          split
          · omega
          · exact Nat.mod_lt _ (by omega)
        rw [e]
        simp only [List.getElem_map, List.getElem_range]
        rw [UInt8.toNat_ofNat_of_lt' h256])
      rw [hl] at ks
      have hS : padS n size width = ⟨((List.range L).map fun k => UInt8.ofNat (padB n L k)).toArray⟩ := by unfold padS; rw [hL]
      rw [← hS] at ks
      rw [hR, hR8]
      clear hr HP HJ HR hR hS hl hR8 hj6 hR9 hlt
      go_wp2_with fail
      go_ret
      exact ⟨rfl, hb⟩
end Go.Proofs.Ytmjbhmpogpagjaa
