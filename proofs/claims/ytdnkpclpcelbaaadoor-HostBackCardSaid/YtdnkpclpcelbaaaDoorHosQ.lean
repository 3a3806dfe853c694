/- host (layer 27): Kind and Parts, by the program and by the reference; the examples. -/
import Derived.Test.YtdnkpclpcelbaaaDoorHosN
import Derived.Test.YtdnkpclpcelbaaaDoorHosO
import Derived.Lib.LastIndexByte
namespace Go.Proofs.YtdnkpclpcelbaaaDoor
set_option maxRecDepth 20000
set_option linter.unusedSimpArgs false
set_option linter.unusedVariables false
open Go.RowKit Go.Lib Go.Shelf Go.Sort
attribute [local go_sem] Oper.semAt_some
theorem brB_short (t : List UInt8) (h : t.length < 2) : brB t = false := by
  have h0 : dbl t = 0 := by
    match t, h with
    | [], _ => rfl
    | [a], _ => exact dbl_one a
  unfold brB
  rw [split_none h0]
  have hg : (grp t).length ≤ 2 := by
    unfold grp
    split
    · simp
    · have := prt_len 58 t []; omega
  simp only [List.flatMap_cons, List.flatMap_nil, List.append_nil, List.length_cons, List.length_nil]
  rw [decide_eq_false (show ¬ (grp t).length = 8 by omega), decide_eq_false (show ¬ 0 + 1 = 2 by decide)]
  simp
theorem brac_eq (l : List UInt8) : bracB l = bracR l := by
  unfold bracB bracR
  by_cases h4 : 4 ≤ l.length
  · rw [decide_eq_true h4, decide_eq_true (show 2 ≤ l.length by omega), show innerL l = innerR l from rfl, br_eq (innerR l) (by unfold innerR; rw [List.length_take, List.length_drop]; omega)]
  · rw [decide_eq_false h4]
    by_cases h2 : 2 ≤ l.length
    · rw [brB_short (innerL l) (by unfold innerL; rw [List.length_take]; omega)]
      simp
    · rw [decide_eq_false h2]
      rfl
def kindI (l : List UInt8) : Int := if wordB l then 1 else if fourB l then 2 else if bracB l then 3 else 0
set_option maxHeartbeats 4000000 in
theorem kind_any (l : List UInt8) (hl : l.length ≤ 1000) (m : Int) (w : World) (hm : w.cell? ⟨gMaxH, 0, none⟩ = some (.int .i64 m)) :
    Calls Tryd.prog 10 #[.string ⟨l.toArray⟩] w fun e w' => e = .returned (.int .i64 (kindI l)) ∧ Below w.heap.size w w' := by
  have K1 := Lib.hid (isWord_any l hl w)
  have K2 := Lib.hid (fun w hm => isFour_any l hl m w hm)
  have K3 := Lib.hid (fun w hm => isBracketed_any l hl m w hm)
  have hk : kindI l = if wordB l then 1 else if fourB l then 2 else if bracB l then 3 else 0 := rfl
  obtain ⟨S, eS⟩ : ∃ S : ByteArray, (⟨l.toArray⟩ : ByteArray) = S := ⟨_, rfl⟩
  rw [eS] at K1 K2 K3 ⊢
  have lgm := blk_of_cellH hm
  simp only at lgm
  have HM := Lib.hid hm
  clear eS hm
  generalize wordB l = a at *
  generalize fourB l = b at *
  generalize bracB l = c at *
  cases a with
  | true =>
    have HK := Lib.hid (show kindI l = 1 from hk)
    clear hk
    go_enter Tryd.func10, Tryd.ntmps10
    go_wp2_with fail
    refine K1.out.mono ?_
    rintro e w1 ⟨rfl, hb⟩
    go_wp2_with fail
    go_ret
    exact ⟨ret_int HK.out.symm, hb⟩
  | false =>
    cases b with
    | true =>
      have HK := Lib.hid (show kindI l = 2 from hk)
      clear hk
      go_enter Tryd.func10, Tryd.ntmps10
      go_wp2_with fail
      refine K1.out.mono ?_
      rintro e w1 ⟨rfl, hb⟩
      go_wp2_with fail
      refine (K2.out w1 (((bcell hb).1 _ 0 lgm).trans HM.out)).mono ?_
      rintro e w2 ⟨rfl, hb2⟩
      go_wp2_with fail
      go_ret
      exact ⟨ret_int HK.out.symm, gr_step hb hb2⟩
    | false =>
      cases c with
      | true =>
        have HK := Lib.hid (show kindI l = 3 from hk)
        clear hk
        go_enter Tryd.func10, Tryd.ntmps10
        go_wp2_with fail
        refine K1.out.mono ?_
        rintro e w1 ⟨rfl, hb⟩
        go_wp2_with fail
        refine (K2.out w1 (((bcell hb).1 _ 0 lgm).trans HM.out)).mono ?_
        rintro e w2 ⟨rfl, hb2⟩
        go_wp2_with fail
        refine (K3.out w2 (((bcell (gr_step hb hb2)).1 _ 0 lgm).trans HM.out)).mono ?_
        rintro e w3 ⟨rfl, hb3⟩
        go_wp2_with fail
        go_ret
        exact ⟨ret_int HK.out.symm, gr_step (gr_step hb hb2) hb3⟩
      | false =>
        have HK := Lib.hid (show kindI l = 0 from hk)
        clear hk
        go_enter Tryd.func10, Tryd.ntmps10
        go_wp2_with fail
        refine K1.out.mono ?_
        rintro e w1 ⟨rfl, hb⟩
        go_wp2_with fail
        refine (K2.out w1 (((bcell hb).1 _ 0 lgm).trans HM.out)).mono ?_
        rintro e w2 ⟨rfl, hb2⟩
        go_wp2_with fail
        refine (K3.out w2 (((bcell (gr_step hb hb2)).1 _ 0 lgm).trans HM.out)).mono ?_
        rintro e w3 ⟨rfl, hb3⟩
        go_wp2_with fail
        go_ret
        exact ⟨ret_int HK.out.symm, gr_step (gr_step hb hb2) hb3⟩
set_option maxHeartbeats 4000000 in
theorem rkind_any (l : List UInt8) (hl : l.length ≤ 1000) (w : World) :
    Calls Tryd.prog 11 #[.string ⟨l.toArray⟩] w fun e w' => e = .returned (.int .i64 (kindI l)) ∧ Below w.heap.size w w' := by
  have K1 := Lib.hid (rword_any l hl w)
  have K2 := Lib.hid (fun w => rfour_any l hl w)
  have K3 := fun w => rbrackets_any l hl w
  rw [← brac_eq] at K3
  have K3 := Lib.hid K3
  have hk : kindI l = if wordB l then 1 else if fourB l then 2 else if bracB l then 3 else 0 := rfl
  obtain ⟨S, eS⟩ : ∃ S : ByteArray, (⟨l.toArray⟩ : ByteArray) = S := ⟨_, rfl⟩
  rw [eS] at K1 K2 K3 ⊢
  clear eS
  generalize wordB l = a at *
  generalize fourB l = b at *
  generalize bracB l = c at *
  cases a with
  | true =>
    have HK := Lib.hid (show kindI l = 1 from hk)
    clear hk
    go_enter Tryd.func11, Tryd.ntmps11
    go_wp2_with fail
    refine K1.out.mono ?_
    rintro e w1 ⟨rfl, hb⟩
    go_wp2_with fail
    go_ret
    exact ⟨ret_int HK.out.symm, hb⟩
  | false =>
    cases b with
    | true =>
      have HK := Lib.hid (show kindI l = 2 from hk)
      clear hk
      go_enter Tryd.func11, Tryd.ntmps11
      go_wp2_with fail
      refine K1.out.mono ?_
      rintro e w1 ⟨rfl, hb⟩
      go_wp2_with fail
      refine (K2.out w1).mono ?_
      rintro e w2 ⟨rfl, hb2⟩
      go_wp2_with fail
      go_ret
      exact ⟨ret_int HK.out.symm, gr_step hb hb2⟩
    | false =>
      cases c with
      | true =>
        have HK := Lib.hid (show kindI l = 3 from hk)
        clear hk
        go_enter Tryd.func11, Tryd.ntmps11
        go_wp2_with fail
        refine K1.out.mono ?_
        rintro e w1 ⟨rfl, hb⟩
        go_wp2_with fail
        refine (K2.out w1).mono ?_
        rintro e w2 ⟨rfl, hb2⟩
        go_wp2_with fail
        refine (K3.out w2).mono ?_
        rintro e w3 ⟨rfl, hb3⟩
        go_wp2_with fail
        go_ret
        exact ⟨ret_int HK.out.symm, gr_step (gr_step hb hb2) hb3⟩
      | false =>
        have HK := Lib.hid (show kindI l = 0 from hk)
        clear hk
        go_enter Tryd.func11, Tryd.ntmps11
        go_wp2_with fail
        refine K1.out.mono ?_
        rintro e w1 ⟨rfl, hb⟩
        go_wp2_with fail
        refine (K2.out w1).mono ?_
        rintro e w2 ⟨rfl, hb2⟩
        go_wp2_with fail
        refine (K3.out w2).mono ?_
        rintro e w3 ⟨rfl, hb3⟩
        go_wp2_with fail
        go_ret
        exact ⟨ret_int HK.out.symm, gr_step (gr_step hb hb2) hb3⟩
end Go.Proofs.YtdnkpclpcelbaaaDoor
