/- Decode: what it answers. -/
import Derived.Test.YtmkcbmlpdkaniaaB64H
import Derived.Deep.WholeRow
namespace Go.Proofs.Ytmkcbmlpdkaniaa
open Go.RowKit
/-- Is each of a text's bytes a sign? What Decode answers. -/
def okB (url : Bool) (t : ByteArray) : Bool := (List.range t.size).all fun i => numI url (gb t i) != -1
def decP (url : Bool) (t : ByteArray) : ByteArray × Int := if okB url t then (if t.size % 4 = 1 then (⟨#[]⟩, 5) else if decR url t = 0 then (decB url t, 0) else (⟨#[]⟩, 6)) else (⟨#[]⟩, 6)
theorem okB_yes {url : Bool} {t : ByteArray} (h : ∀ i, i < t.size → numI url (gb t i) ≠ -1) : okB url t = true := by
  unfold okB
  rw [List.all_eq_true]
  intro i hi
  have := h i (List.mem_range.1 hi)
  simpa using this
theorem okB_no {url : Bool} {t : ByteArray} {i : Nat} (hi : i < t.size) (h : numI url (gb t i) = -1) : okB url t = false := by
  unfold okB
  rw [List.all_eq_false]
  exact ⟨i, List.mem_range.2 hi, by rw [h]; decide⟩
def retD (r : ByteArray × Int) : Ending := .returned (.tuple #[.string r.1, .int .i64 r.2])
set_option maxRecDepth 20000 in
set_option maxHeartbeats 8000000 in
theorem decode_any (url : Bool) (t : ByteArray) (w : World) (ht : t.size ≤ 400) :
    Calls Try.prog 10 #[.bool url, .string t] w fun e w' => e = retD (decP url t) ∧ Below w.heap.size w w' := by
  have kz := zero_arr
  have kb := fun (w : World) (s : ByteArray) => run_bytes_of_string (P := Try.prog) w 9 34 5 s Try.underlying9 Try.underlying34 Try.underlying5
  have hl := rowV_len url 64
  go_enter Try.func10, Try.ntmps10
  go_wp2_with (go_at_call 16; refine (values_any _ _).mono ?_; rintro e w1 ⟨rfl, hb1⟩; have ks := run_storeCells_from (P := Try.prog) w1.heap.size 40 (rowV url 64) 0 (Array.replicate 256 (Value.int IntKind.u8 0)) (w1.alloc (.cells (Array.replicate 256 (Value.int IntKind.u8 0)) 40)) (alloc_new _ _) (by rw [rowV_len, Array.size_replicate]) (by intro v hv; unfold rowV at hv; obtain ⟨c, _, rfl⟩ := List.mem_map.1 hv; rfl))
  rw [World.setRow_alloc_new]
  have hXs : (w1.alloc (.cells (rowV url 64).toArray 40)).heap.size = w1.heap.size + 1 := alloc_size1 _ _
  have hX0 : (w1.alloc (.cells (rowV url 64).toArray 40)).heap[w1.heap.size]? = some (.cells (rowV url 64).toArray 40 (0, 0)) := alloc_new _ _
  have hXb : Below w.heap.size w (w1.alloc (.cells (rowV url 64).toArray 40)) := gr_alloc hb1 _
  have hS := hb1.size
  generalize w1.alloc (.cells (rowV url 64).toArray 40) = X at *
  generalize w1.heap.size = S at *
  clear kz kb
  have kg := grownCap_ge X t.size 0 5
  generalize grownCap X t.size 0 5 = cap at kg ⊢
  have hY0 : (X.alloc (.cells (bytesRow t cap) 5 ((bytesRow t cap).size, (bytesRow t cap).size + 1))).drew.heap[S]? = some (.cells (rowV url 64).toArray 40 (0, 0)) := (alloc_old X _ S (by omega)).trans hX0
  have hYc : ∀ i, i < t.size → (X.alloc (.cells (bytesRow t cap) 5 ((bytesRow t cap).size, (bytesRow t cap).size + 1))).drew.cell? ⟨S + 1, i, none⟩ = some (.int .u8 (gb t i : Int)) := fun i hi => by
    rw [← hXs]; exact bytes_cells X t cap _ _ i hi
  have hYf : ∀ i, i < t.size → (X.alloc (.cells (bytesRow t cap) 5 ((bytesRow t cap).size, (bytesRow t cap).size + 1))).drew.frozen? ⟨S + 1, i, none⟩ = false := fun i hi => by
    have h1 : (X.alloc (.cells (bytesRow t cap) 5 ((bytesRow t cap).size, (bytesRow t cap).size + 1))).drew.heap[S + 1]? = some (.cells (bytesRow t cap) 5 ((bytesRow t cap).size, (bytesRow t cap).size + 1)) := by rw [← hXs]; exact alloc_new _ _
    have h2 : t.size ≤ (bytesRow t cap).size := by unfold bytesRow; simp
    simp [World.frozen?, h1]
    omega
  have hYb : Below w.heap.size w (X.alloc (.cells (bytesRow t cap) 5 ((bytesRow t cap).size, (bytesRow t cap).size + 1))).drew := (gr_alloc hXb _).drew
  have hYs : S + 2 ≤ (X.alloc (.cells (bytesRow t cap) 5 ((bytesRow t cap).size, (bytesRow t cap).size + 1))).drew.heap.size := by show _ ≤ (X.alloc _).heap.size; rw [alloc_size1]; omega
  generalize (X.alloc (.cells (bytesRow t cap) 5 ((bytesRow t cap).size, (bytesRow t cap).size + 1))).drew = Y at *
  clear hX0 hXb hXs hl hb1
  go_loopw [19] (fun i wr => ∃ k : Nat, k ≤ t.size ∧ i = .int .i64 (k : Int) ∧ (∀ i, i < k → numI url (gb t i) ≠ -1) ∧ wr.heap[S]? = some (.cells (rowV url 64).toArray 40 (0, 0)) ∧ (∀ i, i < t.size → wr.cell? ⟨S + 1, i, none⟩ = some (.int .u8 (if i < k then numI url (gb t i) else (gb t i : Int)))) ∧ (∀ i, i < t.size → wr.frozen? ⟨S + 1, i, none⟩ = false) ∧ Below w.heap.size w wr ∧ S + 2 ≤ wr.heap.size) (fun i _ => t.size - (intOf i).toNat)
  case atStart => exact ⟨0, by omega, rfl, fun i hi => absurd hi (by omega), hY0, fun i hi => by rw [if_neg (by omega)]; exact hYc i hi, hYf, hYb, hYs⟩
  case round =>
    clear hY0 hYc hYf hYb hYs
    obtain ⟨k, hk, rfl, hok, h0, hc, hf, hb, hsz⟩ := hrel
    by_cases hlt : k < t.size
    · have p1 : (k : Int) < (t.size : Int) := by omega
      have c0 := hc k hlt
      rw [if_neg (by omega)] at c0
      have f0 := hf k hlt
      have g1 := gb_lt t k
      obtain ⟨c1, f1⟩ := arr_get h0 (rowV_get url (gb t k) g1)
      have HNU := num_cases url (gb t k)
      obtain ⟨V, hV⟩ : ∃ V, V = numI url (gb t k) + 1 := ⟨_, rfl⟩
      rw [← hV] at c1
      have HV := Lib.hid hV
      have HC := Lib.hid hc
      have HF := Lib.hid hf
      have HO := Lib.hid hok
      have H0 := Lib.hid h0
      have hVr : 0 ≤ V ∧ V ≤ 64 := by rcases HNU with h | ⟨j, hj, h, _⟩ <;> rw [h] at hV <;> omega
      obtain ⟨v0, v64⟩ := hVr
      have HG := Lib.hid (rfl : gb t k = gb t k)
      clear hV hc hf hok HNU f1 h0
      have x1 : (gb t k : Int) < 256 := by omega
      by_cases hz : V = 0
      · subst hz
        have HD := Lib.hid (show decP url t = (⟨#[]⟩, 6) by
          have hv := HV.out
          unfold decP
          rw [okB_no hlt (by omega)]
          rfl)
        go_wp2_with fail
        go_ret2
        exact ⟨by rw [HD.out]; rfl, hb⟩
      · have q1 : ¬ V = 0 := hz
        have q2 : (V == 0) = false := by simpa using hz
        have o1 : IntKind.u8.wrap (V - 1) = V - 1 := by rw [IntKind.wrap_u8']; omega
        have o5 : IntKind.i64.wrap ((k : Int) + 1) = (k : Int) + 1 := IntWalk.i64_in _ (by omega)
        go_wp2_with fail
        go_roundw
        case rel =>
          have hv := HV.out
          refine ⟨k + 1, by omega, congrArg (Value.int .i64) (by omega), fun i hi => ?_, ?_, fun i hi => ?_, fun i hi => ?_, hb.setCell (p := ⟨S + 1, k, none⟩) (by show w.heap.size ≤ S + 1; omega) _, ?_⟩
          · rcases Nat.lt_or_ge i k with h | h
            · exact HO.out i h
            · rw [show i = k by omega]; omega
          · rw [Below.heap_setCell _ _ _ _ (by show S ≠ S + 1; omega)]; exact H0.out
          · by_cases e : i = k
            · subst e
              rw [World.cell?_setCell_same (h := c0), if_pos (by omega)]
              congr 2
              omega
            · rw [World.cell?_setCell_other (h := fun h => e (by simp only [Addr.mk.injEq] at h; omega)), HC.out i hi]
              by_cases h : i < k
              · rw [if_pos h, if_pos (by omega)]
              · rw [if_neg h, if_neg (by omega)]
          · rw [World.frozen?_setCell]; exact HF.out i hi
          · show _ ≤ (wr.heap.modify _ _).size; rw [Array.size_modify]; exact hsz
        case measure => simp [intOf]; omega
    · obtain rfl : k = t.size := by omega
      have p1 : ¬ (t.size : Int) < (t.size : Int) := by omega
      have HOK := Lib.hid (okB_yes (url := url) (t := t) hok)
      obtain ⟨m, hm⟩ : ∃ m, t.size % 4 = m := ⟨_, rfl⟩
      have t1 : (t.size : Int).tmod 4 = (m : Int) := by rw [Int.tmod_eq_emod_of_nonneg (by omega)]; omega
      have HM := Lib.hid hm
      clear h0 hf hm
      by_cases m1 : m = 1
      · subst m1
        have HD := Lib.hid (show decP url t = (⟨#[]⟩, 5) by
          unfold decP
          rw [HOK.out, if_pos rfl, if_pos HM.out])
        clear hok hc
        go_wp2_with fail
        go_ret2
        exact ⟨by rw [HD.out]; rfl, hb⟩
      · have q1 : ¬ (m : Int) = 1 := by omega
        have q2 : ((m : Int) == 1) = false := by simpa using q1
        have RG := regroup_68 (S + 1) t.size cap (vN url t) wr (fun i => v_lt url t i) ht (by omega) (fun i hi => by
          rw [hc i hi, if_pos hi]
          have h1 := hok i hi
          have h2 := num_cases url (gb t i)
          congr 2
          unfold vN
          rcases h2 with h2 | ⟨j, hj, h2, _⟩
          · exact absurd h2 h1
          · rw [h2]; omega)
        clear hok hc
        go_wp2_with fail
        go_at_call 13
        refine RG.mono ?_
        rintro e w2 ⟨ov, q, l, hql, hl, rfl, hb2, hown⟩
        clear RG
        have hq : q = 6 * t.size / 8 := by omega
        have hl' : l = 6 * t.size - 8 * q := by omega
        have HR := Lib.hid (show wN 6 (vN url t) (8 * q) l = decR url t by rw [hl', hq]; rfl)
        have hr8 : wN 6 (vN url t) (8 * q) l < 2 ^ l := w_lt _ _ _ _
        have hr9 : 2 ^ l ≤ 2 ^ 7 := Nat.pow_le_pow_right (by decide) (by omega)
        have hbb : Below w.heap.size w w2 := hb.trans (hb2.mono (by have := hb.size; omega))
        have HQ := Lib.hid hq
        have hq9 : q ≤ 1000 := by omega
        clear hb2 hb hq hl' hql
        generalize wN 6 (vN url t) (8 * q) l = R at HR hr8 ⊢
        have r1 : (R : Int) ≤ 1000 := by omega
        clear hr8 hr9
        by_cases r0 : R = 0
        · subst r0
          have hrow : ((List.range q).map fun j => Value.int .u8 (wN 6 (vN url t) (8 * j) 8 : Int)) = ((List.range q).map fun j => ofI (wN 6 (vN url t) (8 * j) 8 : Int)).map bc := by
            rw [List.map_map]
            refine List.map_congr_left fun j _ => ?_
            have := w8_lt 6 (vN url t) (8 * j)
            show _ = bc (ofI _)
            rw [bc_ofI _ (by omega) (by omega)]
          rw [hrow] at hown
          have ks := own_string (P := Try.prog) (t := 34) (ty := 9) Try.underlying34 Try.underlying5 Try.underlying9 hown
          have HD := Lib.hid (show decP url t = (⟨((List.range q).map fun j => ofI (wN 6 (vN url t) (8 * j) 8 : Int)).toArray⟩, 0) by
            unfold decP
            rw [HOK.out, if_pos rfl, if_neg (by have := HM.out; omega), if_pos HR.out.symm]
            unfold decB txt
            rw [HQ.out])
          clear hown hrow
          go_wp2_with fail
          go_ret2
          exact ⟨by rw [HD.out]; rfl, hbb⟩
        · have q3 : ¬ (R : Int) = 0 := by omega
          have q4 : ((R : Int) == 0) = false := by simpa using q3
          have HD := Lib.hid (show decP url t = (⟨#[]⟩, 6) by
            unfold decP
            rw [HOK.out, if_pos rfl, if_neg (by have := HM.out; omega), if_neg (by rw [← HR.out]; exact r0)])
          clear hown
          go_wp2_with fail
          go_ret2
          exact ⟨by rw [HD.out]; rfl, hbb⟩
end Go.Proofs.Ytmkcbmlpdkaniaa
