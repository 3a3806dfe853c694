/- match.Glob (layer 52): what it answers. -/
import Derived.Test.YtkaigdmoccfbfaaDoorGloA
import Derived.Test.YtkaigdmoccfbfaaDoorShelf
namespace Go.Proofs.YtkaigdmoccfbfaaDoor
open Go.RowKit
theorem arr_get {w : World} {b i : Nat} {t : TypeId} {L : List Value} {v : Value} (h : w.heap[b]? = some (.cells L.toArray t (0, 0))) (hi : L[i]? = some v) : w.cell? ⟨b, i, none⟩ = some v ∧ w.frozen? ⟨b, i, none⟩ = false :=
  ⟨by simp [World.cell?, h, hi], by simp [World.frozen?, h]⟩
theorem alloc_new (w : World) (o : Obj) : (w.alloc o).heap[w.heap.size]? = some o := by
  show (w.heap.push o)[w.heap.size]? = some o
  simp
theorem parts_one : ∀ (p a : List UInt8), parts p = [a] → a = p
  | [], a, h => by
    have h' : [[]] = [a] := h
    simpa using h'.symm
  | c :: ps, a, h => by
    obtain ⟨x, t, e⟩ := parts_ne ps
    by_cases hc : c = 42
    · have h' : [] :: parts ps = [a] := by rw [← h]; show _ = (if c = 42 then [] :: parts ps else _); rw [if_pos hc]
      rw [e] at h'
      simp at h'
    · have h' : (c :: x) :: t = [a] := by rw [← h]; show _ = (if c = 42 then [] :: parts ps else _); rw [if_neg hc, e]
      simp at h'
      rw [parts_one ps x (by rw [e, h'.2])] at h'
      exact h'.1.symm
def star : ByteArray := ⟨#[42]⟩
theorem split_data (p : ByteArray) : ((Lib.splitB star 0 (Lib.countB p star) p).map (·.data.toList)) = parts p.data.toList := by
  rw [Lib.splitB_data]
  exact split_parts _
theorem ba_list (l : List UInt8) : (⟨l.toArray⟩ : ByteArray).data.toList = l := rfl
theorem ba_eta (x : ByteArray) : x = ⟨x.data.toList.toArray⟩ := by cases x; simp
theorem below_drewN {B : Nat} {a w : World} (h : Below B a w) (n : Nat) : Below B a (w.drewN n) := ⟨h.os, h.tape, h.output, h.size, h.block⟩
set_option maxRecDepth 20000 in
set_option maxHeartbeats 2000000 in
theorem glob_any (p s : ByteArray) (m : Int) (w : World) (hm : w.cell? ⟨0, 0, none⟩ = some (.int .i64 m)) (hp : p.size ≤ 1000) (hs : s.size ≤ 1000) :
    Calls Tryd.prog 5 #[.string p, .string s] w fun e w' => ∃ b, e = .returned (.bool b) ∧ (b = true ↔ Mt p.data.toList s.data.toList) ∧ Below w.heap.size w w' := by
  have KS := Lib.hid (Tryd.strings_Split p star m w (by omega) hm (by decide))
  have hd := split_data p
  have hl := Lib.splitB_all star (by decide) 0 _ p rfl
  obtain ⟨LB, hLB⟩ : ∃ LB, Lib.splitB star 0 (Lib.countB p star) p = LB := ⟨_, rfl⟩
  rw [hLB] at hd hl KS
  have hcn : Lib.countB p star ≤ p.size := Lib.countB_le star (by decide) p.size p (Nat.le_refl _)
  obtain ⟨N, hN⟩ : ∃ N, Lib.countB p star = N := ⟨_, rfl⟩
  rw [hN] at KS hl hcn
  have hn := alloc_new w (.cells (LB.map Value.string).toArray 9)
  have hbe : Below w.heap.size w (w.alloc (.cells (LB.map Value.string).toArray 9)) := (Below.refl _ _).alloc (Nat.le_refl _) _
  have h0 : 0 < w.heap.size := by
    apply Nat.lt_of_not_le
    intro hle
    simp [World.cell?, Array.getElem?_eq_none hle] at hm
  have hm1 : (w.alloc (.cells (LB.map Value.string).toArray 9)).cell? ⟨0, 0, none⟩ = some (.int .i64 m) := by rw [← hm]; exact hbe.cell h0
  have HM := Lib.hid (mt_parts p.data.toList s.data.toList)
  have HD := Lib.hid hd
  have HB := Lib.hid hbe
  have HM1 := Lib.hid hm1
  clear hd hbe hLB hN hm hm1
  rcases LB with _ | ⟨x0, T⟩
  · simp at hl
  rcases List.eq_nil_or_concat T with rfl | ⟨mids, z, rfl⟩
  · have hN0 : N = 0 := by simpa using hl.symm
    subst hN0
    generalize w.alloc (.cells (List.map Value.string [x0]).toArray 9) = w1 at *
    have hpx : x0.data.toList = p.data.toList := parts_one _ _ HD.out.symm
    clear hn hl hcn
    go_enter Tryd.func5, Tryd.ntmps5
    go_wp2_with (go_at_call 7; refine KS.out.mono ?_; rintro e w' ⟨rfl, rfl⟩)
    go_ret
    refine ⟨_, rfl, ?_, HB.out⟩
    have hd := HD.out
    have hpp : parts p.data.toList = [p.data.toList] := by rw [← hd]; show [x0.data.toList] = _; rw [hpx]
    rw [HM.out, hpp]
    show (p.toList == s.toList) = true ↔ s.data.toList = p.data.toList
    rw [beq_iff_eq, ByteArray.toList_eq, ByteArray.toList_eq]
    exact ⟨fun h => h.symm, fun h => h.symm⟩
  · have hlen : mids.length + 1 = N := by simpa using hl
    generalize hw1 : w.alloc (.cells (List.map Value.string (x0 :: mids.concat z)).toArray 9) = w1 at *
    have c0 := (arr_get (i := 0) (v := .string x0) hn rfl).1
    have cz := (arr_get (i := N) (v := .string z) hn (by rw [← hlen]; simp)).1
    have cm : ∀ k, (hk : k < mids.length) → w1.cell? ⟨w.heap.size, 1 + k, none⟩ = some (.string mids[k]) := fun k hk => (arr_get hn (by rw [Nat.add_comm]; simp [List.getElem?_append_left, hk])).1
    have hpp : parts p.data.toList = x0.data.toList :: ((mids.map (·.data.toList)) ++ [z.data.toList]) := by rw [← HD.out]; simp
    have HMM := HM.out
    rw [hpp, st_mids] at HMM
    have HC := Lib.hid cm
    have KP := Lib.hid (Tryd.strings_CutPrefix s x0 w1)
    have HM2 := Lib.hid HMM
    have HW := Lib.hid hw1
    clear cm HMM hpp HD HM hn hl hw1
    have j1 : (1 : Int) ≤ (N : Int) := by omega
    have j2 : ¬ (N : Int) = 0 := by omega
    have j3 : (N : Int) ≤ 1000 := by omega
    by_cases hpre : Lib.hasPrefix s.data.toList x0.data.toList = true
    · obtain ⟨s1, hs1⟩ : ∃ s1, s.data.toList = x0.data.toList ++ s1 := by
        obtain ⟨r, hr⟩ := List.isPrefixOf_iff_prefix.1 hpre
        exact ⟨r, hr.symm⟩
      have ht : Lib.trimPrefix s.data.toList x0.data.toList = s1 := by
        unfold Lib.trimPrefix
        rw [if_pos hpre, hs1, List.drop_left]
      rw [hpre, ht] at KP
      have KZ := Lib.hid (Tryd.strings_CutSuffix ⟨s1.toArray⟩ z w1 (by
        have h := congrArg List.length hs1
        rw [List.length_append] at h
        have h2 : s.size = s.data.toList.length := Lib.size_eq s
        show s1.length ≤ _
        omega))
      rw [ba_list] at KZ
      have h2 : s.size = s.data.toList.length := Lib.size_eq s
      have hsl := congrArg List.length hs1
      rw [List.length_append] at hsl
      have HS1 := Lib.hid hs1
      clear hs1 hpre ht
      by_cases hsuf : Lib.hasSuffix s1 z.data.toList = true
      · obtain ⟨s2, hs2⟩ : ∃ s2, s1 = s2 ++ z.data.toList := by
          obtain ⟨r, hr⟩ := List.isSuffixOf_iff_suffix.1 hsuf
          exact ⟨r, hr.symm⟩
        have ht : Lib.trimSuffix s1 z.data.toList = s2 := by
          unfold Lib.trimSuffix
          rw [if_pos hsuf, hs2, List.length_append, Nat.add_sub_cancel, List.take_left]
        rw [hsuf, ht] at KZ
        have hs2l := congrArg List.length hs2
        rw [List.length_append] at hs2l
        have HT : Hid (Mt p.data.toList s.data.toList ↔ Tt (mids.map (·.data.toList)) s2) := by
          show _ ↔ _
          rw [HM2.out]
          constructor
          · rintro ⟨v, hv, hT⟩
            rw [HS1.out, hs2, List.append_assoc] at hv
            have e1 := List.append_cancel_left hv
            have e2 := List.append_cancel_right e1
            rw [e2]; exact hT
          · intro hT
            exact ⟨s2, by rw [HS1.out, hs2, List.append_assoc], hT⟩
        have hs2n : s2.length ≤ 1000 := by omega
        have e1 : N - 1 = mids.length := by omega
        have HB2 := Lib.hid HB.out
        clear hs2 hsuf ht HM2 HS1 hsl hs2l
        go_enter Tryd.func5, Tryd.ntmps5
        go_wp2_with (first
          | (go_at_call 7; refine KS.out.mono ?_; rintro e w' ⟨rfl, rfl⟩)
          | (go_at_call 8; refine KP.out.mono ?_; rintro e w' ⟨rfl, rfl⟩)
          | (go_at_call 9; refine KZ.out.mono ?_; rintro e w' ⟨rfl, rfl⟩))
        go_loopw [1, 45] (fun x i W => ∃ k : Nat, ∃ r : List UInt8, ∃ nq : Nat, k ≤ mids.length ∧ i = .int .i64 (k : Int) ∧ x = .string ⟨r.toArray⟩ ∧ r.length ≤ 1000 ∧ W = w'.drewN nq ∧ (Mt p.data.toList s.data.toList ↔ Tt ((mids.drop k).map (·.data.toList)) r)) (fun _ i _ => mids.length - (intOf i).toNat)
        case atStart => exact ⟨0, s2, 0, by omega, rfl, rfl, hs2n, rfl, by simpa using HT.out⟩
        case round =>
          obtain ⟨k, r, nq, hk, rfl, rfl, hr, rfl, hiff⟩ := hrel
          have HI := Lib.hid hiff
          clear hiff HT
          by_cases hkl : k < mids.length
          · have ck : (w'.drewN nq).cell? ⟨w.heap.size, 1 + k, none⟩ = some (.string mids[k]) := HC.out k hkl
            have hkl' : (k : Int) < (mids.length : Int) := by omega
            have KC := Lib.hid (Tryd.strings_Cut ⟨r.toArray⟩ mids[k] m (w'.drewN nq) (by show r.length < _; omega) HM1.out)
            rw [ba_list] at KC
            have hdk : (mids.drop k).map (·.data.toList) = mids[k].data.toList :: (mids.drop (k + 1)).map (·.data.toList) := by
              rw [List.drop_eq_getElem_cons hkl]; rfl
            have HI2 : Hid (Mt p.data.toList s.data.toList ↔ (Lib.cut r mids[k].data.toList).2.2 = true ∧ Tt ((mids.drop (k + 1)).map (·.data.toList)) (Lib.cut r mids[k].data.toList).2.1) := by
              show _ ↔ _
              rw [HI.out, hdk, tt_cut]
            have hcl : (Lib.cut r mids[k].data.toList).2.1.length ≤ 1000 := by
              unfold Lib.cut
              split
              · show (r.drop _).length ≤ 1000
                rw [List.length_drop]; omega
              · show (0 : Nat) ≤ 1000
                omega
            generalize mids[k] = y at *
            clear HI hdk
            generalize Lib.cut r y.data.toList = C at *
            obtain ⟨C1, C2, C3⟩ := C
            simp only at hcl HI2 KC
            cases C3 with
            | true =>
              go_wp2_with (go_at_call 10; refine KC.out.mono ?_; rintro e w' ⟨rfl, nq2, rfl⟩)
              go_roundw
              case rel => exact ⟨k + 1, C2, nq + nq2, by omega, rfl, rfl, hcl, rfl, by rw [HI2.out, true_and]⟩
              case measure =>
                simp [intOf]
                omega
            | false =>
              go_wp2_with (go_at_call 10; refine KC.out.mono ?_; rintro e w' ⟨rfl, nq2, rfl⟩)
              go_ret
              exact ⟨false, rfl, ⟨(fun h => by cases h), fun h => by have := (HI2.out.1 h).1; cases this⟩, below_drewN HB2.out _⟩
          · have e2 : k = mids.length := by omega
            subst e2
            go_wp2_with fail
            go_ret
            exact ⟨true, rfl, ⟨fun _ => HI.out.2 (by rw [List.drop_length]; trivial), fun _ => rfl⟩, below_drewN HB2.out _⟩
      · have hsuf' : Lib.hasSuffix s1 z.data.toList = false := Bool.eq_false_iff.2 hsuf
        rw [hsuf'] at KZ
        go_enter Tryd.func5, Tryd.ntmps5
        go_wp2_with (first
          | (go_at_call 7; refine KS.out.mono ?_; rintro e w' ⟨rfl, rfl⟩)
          | (go_at_call 8; refine KP.out.mono ?_; rintro e w' ⟨rfl, rfl⟩)
          | (go_at_call 9; refine KZ.out.mono ?_; rintro e w' ⟨rfl, rfl⟩))
        go_ret
        refine ⟨false, rfl, ?_, HB.out⟩
        constructor
        · intro h; cases h
        · intro h
          obtain ⟨v, hv, _⟩ := HM2.out.1 h
          rw [HS1.out, List.append_assoc] at hv
          exact absurd (List.isSuffixOf_iff_suffix.2 ⟨v, (List.append_cancel_left hv).symm⟩) hsuf
    · have hpre' : Lib.hasPrefix s.data.toList x0.data.toList = false := Bool.eq_false_iff.2 hpre
      rw [hpre'] at KP
      go_enter Tryd.func5, Tryd.ntmps5
      go_wp2_with (first
        | (go_at_call 7; refine KS.out.mono ?_; rintro e w' ⟨rfl, rfl⟩)
        | (go_at_call 8; refine KP.out.mono ?_; rintro e w' ⟨rfl, rfl⟩))
      go_ret
      refine ⟨false, rfl, ?_, HB.out⟩
      constructor
      · intro h; cases h
      · intro h
        obtain ⟨v, hv, _⟩ := HM2.out.1 h
        exact absurd (List.isPrefixOf_iff_prefix.2 ⟨v ++ z.data.toList, by rw [hv, List.append_assoc]⟩) hpre
end Go.Proofs.YtkaigdmoccfbfaaDoor
