/- esc (layer 4): the document's examples; EscReads. -/
import Derived.Test.YtcadklhjhjbhaaaDoorEscN
import Derived.Test.YtcadklhjhjbhaaaDoorEscH
import Derived.Test.YtcadklhjhjbhaaaDoorEscL
namespace Go.Proofs.YtcadklhjhjbhaaaDoor
set_option maxRecDepth 20000
set_option linter.unusedSimpArgs false
set_option linter.unusedVariables false
open Go.RowKit Go.Lib Go.Shelf
attribute [local go_sem] Oper.semAt_some
theorem valid_10 : validB [10] = true := by
  have h := (Read.zero [10]).step (by decide) (show nx (List.drop 0 [10]) = some (10, 1) from rfl)
  have h2 := (h.last (show nx (List.drop (0 + 1) [10]) = none from rfl)).2
  unfold validB
  rw [h2]
  rfl
theorem quote_10 : quoteR [10] = .tuple #[.string ⟨#[34, 92, 110, 34]⟩, .int .i64 0] := by
  unfold quoteR quoteL
  rw [if_pos valid_10, cpsAt_some (show nx (List.drop 0 [10]) = some (10, 1) from rfl), cpsAt_none (show nx (List.drop (0 + 1) [10]) = none from rfl)]
  rfl
abbrev exL : List UInt8 := [34, 92, 117, 100, 56, 51, 100, 92, 117, 100, 101, 48, 48, 34]
theorem read_ex : ansU (unquoteV exL 0) = ([240, 159, 152, 128], 14, 0) := by
  have h : unquoteV exL 0 = unq exL 1 := rfl
  rw [h, unq_esc (by decide) (by rfl), show escV exL (1 + 1) = .ok (128512, 13) from rfl]
  simp only
  rw [unq_quote (by decide) (by rfl)]
  rfl
theorem read_bad : ansU (unquoteV [34, 92, 120, 34] 0) = ([], 0, 11) := by
  have h : unquoteV [34, 92, 120, 34] 0 = unq [34, 92, 120, 34] 1 := rfl
  rw [h, unq_esc (by decide) (by rfl), show escV [34, 92, 120, 34] (1 + 1) = .error 11 from rfl]
  rfl
set_option maxHeartbeats 4000000 in
theorem elives_any (w : World) (hT : Tabs w) : Calls Tryd.prog 9 #[] w fun e w' => e = .returned (.bool true) ∧ Below w.heap.size w w' := by
  have h2 := tabs_size hT
  have K1 := Lib.hid (fun w hT => quote_any ⟨#[10]⟩ (by decide) w hT)
  have K2 := Lib.hid (fun w hT => unquote_any ⟨#[34, 92, 117, 100, 56, 51, 100, 92, 117, 100, 101, 48, 48, 34]⟩ 0 w (by decide) hT)
  have K3 := Lib.hid (fun w hT => unquote_any ⟨#[34, 92, 120, 34]⟩ 0 w (by decide) hT)
  rw [show quoteR (⟨#[10]⟩ : ByteArray).data.toList = _ from quote_10] at K1
  rw [show ansU (unquoteV (⟨#[34, 92, 117, 100, 56, 51, 100, 92, 117, 100, 101, 48, 48, 34]⟩ : ByteArray).data.toList 0) = _ from read_ex] at K2
  rw [show ansU (unquoteV (⟨#[34, 92, 120, 34]⟩ : ByteArray).data.toList 0) = _ from read_bad] at K3
  simp only [retU] at K2 K3
  go_enter Tryd.func9, Tryd.ntmps9
  go_wp2_with fail
  refine (K1.out _ hT).mono ?_
  rintro e w1 ⟨rfl, hb1⟩
  have T1 := Lib.hid (tabs_low h2 hT hb1)
  have HB1 := Lib.hid hb1
  clear hb1 hT
  go_wp2_with fail
  refine (K2.out _ T1.out).mono ?_
  rintro e w2 ⟨rfl, hb2⟩
  have hb2' : Below w.heap.size w1 w2 := hb2.mono HB1.out.size
  have T2 := Lib.hid (tabs_low h2 T1.out hb2')
  have HB2 := Lib.hid (HB1.out.trans hb2')
  clear hb2 hb2'
  go_wp2_with fail
  refine (K3.out _ T2.out).mono ?_
  rintro e w3 ⟨rfl, hb3⟩
  go_wp2_with fail
  go_ret
  exact ⟨rfl, HB2.out.trans (hb3.mono HB2.out.size)⟩
set_option maxHeartbeats 4000000 in
theorem escReads_w (t : ByteArray) (at_ : Int) (w : World) (hT : Tabs w) : Calls Tryd.prog 4 #[.string t, .int .i64 at_] w fun e w' => e = .returned (.bool true) ∧ Below w.heap.size w w' := by
  have h2 := tabs_size hT
  by_cases hs : 300 < t.size
  · have p1 : (300 : Int) < (t.size : Int) := by omega
    go_enter Tryd.func4, Tryd.ntmps4
    go_wp2_with fail
    refine (elives_any w hT).mono ?_
    rintro e w1 ⟨rfl, hb1⟩
    go_wp2_with fail
    go_ret
    exact ⟨rfl, hb1⟩
  · have p1 : ¬ (300 : Int) < (t.size : Int) := by omega
    have K1 := Lib.hid (fun w hT => unquote_any t at_ w (by omega) hT)
    have K2 := Lib.hid (fun w => runquote_any t at_ w (by omega))
    obtain ⟨S, I, M, hr⟩ : ∃ S I M, ansU (unquoteV t.data.toList at_) = (S, I, M) := ⟨_, _, _, rfl⟩
    rw [hr] at K1 K2
    simp only [retU] at K1 K2
    go_enter Tryd.func4, Tryd.ntmps4
    go_wp2_with fail
    refine (K1.out _ hT).mono ?_
    rintro e w1 ⟨rfl, hb1⟩
    have T1 := Lib.hid (tabs_low h2 hT hb1)
    have HB1 := Lib.hid hb1
    clear hb1 hT
    go_wp2_with fail
    refine (K2.out w1).mono ?_
    rintro e w2 ⟨rfl, hb2⟩
    have hb2' : Below w.heap.size w1 w2 := hb2.mono HB1.out.size
    have T2 := Lib.hid (tabs_low h2 T1.out hb2')
    have HB2 := Lib.hid (HB1.out.trans hb2')
    clear hb2 hb2'
    go_wp2_with fail
    refine (elives_any w2 T2.out).mono ?_
    rintro e w3 ⟨rfl, hb3⟩
    go_wp2_with fail
    go_ret
    exact ⟨rfl, HB2.out.trans (hb3.mono HB2.out.size)⟩
end Go.Proofs.YtcadklhjhjbhaaaDoor
