/- The document's examples (layer 3). -/
import Derived.Test.YtdggijibmpbpdaaDoorUtfI
namespace Go.Proofs.YtdggijibmpbpdaaDoor
open Go.RowKit Go.Lib
theorem okP_233 : okP [233] 1 := fun i hi => by obtain rfl : i = 0 := by omega
                                                rfl
theorem forms_233 : formsB [233] 1 = [195, 169] := by rfl
theorem nx_c0 : nx [192, 128] = none := by rfl
theorem nx_ed : nx [237, 160, 128] = none := by rfl
theorem nx_233 : nx [195, 169] = some (233, 2) := by rfl
theorem valid_233 : validB [195, 169] = true := by
  have h := (Read.zero [195, 169]).step (by decide) (show nx (List.drop 0 [195, 169]) = some (233, 2) from nx_233)
  have h2 := (h.last (show nx (List.drop (0 + 2) [195, 169]) = none from rfl)).2
  unfold validB
  rw [h2]
  rfl
set_option maxHeartbeats 4000000 in
theorem lives_any (w : World) (hT : Tabs w) : Calls Tryd.prog 6 #[] w fun e w' => e = .returned (.bool true) ∧ Below w.heap.size w w' := by
  have h2 := tabs_size hT
  have K1 := Lib.hid (fun w hT => next_any ⟨#[192, 128]⟩ 0 w hT)
  have K2 := Lib.hid (fun w hT => next_any ⟨#[237, 160, 128]⟩ 0 w hT)
  have K3 := Lib.hid (fun w hT => valid_any ⟨#[195, 169]⟩ (by decide) w hT)
  rw [show nextV (⟨#[192, 128]⟩ : ByteArray).data.toList 0 = none from (nextV_nat [192, 128] 0).trans nx_c0, show retN none = Ending.returned (.tuple #[.int .i32 0, .int .i64 0, .bool false]) from rfl] at K1
  rw [show nextV (⟨#[237, 160, 128]⟩ : ByteArray).data.toList 0 = none from (nextV_nat [237, 160, 128] 0).trans nx_ed, show retN none = Ending.returned (.tuple #[.int .i32 0, .int .i64 0, .bool false]) from rfl] at K2
  rw [show validB (⟨#[195, 169]⟩ : ByteArray).data.toList = true from valid_233] at K3
  go_enter Tryd.func6, Tryd.ntmps6
  go_wp2_with fail
  refine (put_any w.heap.size 0 1 1 [233] _ (by decide) (fun _ => by simp) (fun i hi => by obtain rfl : i = 0 := by omega
                                                                                           simp [go_sem]) (fun i hi => by obtain rfl : i = 0 := by omega
                                                                                                                          decide) _ (fun _ => rfl)).mono ?_
  rintro e w1 ⟨he, hb⟩
  have hb1 : Below w.heap.size w w1 := ((Below.refl _ w).alloc (Nat.le_refl _) _).trans (hb.mono (by simp))
  clear hb
  rcases he with ⟨-, he⟩ | ⟨hn, -⟩
  rotate_left
  · exact absurd okP_233 hn
  rw [forms_233, show retP [195, 169] 0 = Ending.returned (.tuple #[.string ⟨#[195, 169]⟩, .int .i64 0]) from rfl] at he
  subst he
  have T1 := Lib.hid (tabs_low h2 hT hb1)
  have HB1 := Lib.hid hb1
  clear hb1 hT
  go_wp2_with fail
  refine (K1.out _ T1.out).mono ?_
  rintro e w2 ⟨rfl, hb2⟩
  have hb2' : Below w.heap.size w1 w2 := hb2.mono HB1.out.size
  have T2 := Lib.hid (tabs_low h2 T1.out hb2')
  have HB2 := Lib.hid (HB1.out.trans hb2')
  clear hb2 hb2'
  go_wp2_with fail
  refine (K2.out _ T2.out).mono ?_
  rintro e w3 ⟨rfl, hb3⟩
  have hb3' : Below w.heap.size w2 w3 := hb3.mono HB2.out.size
  have T3 := Lib.hid (tabs_low h2 T2.out hb3')
  have HB3 := Lib.hid (HB2.out.trans hb3')
  clear hb3 hb3'
  go_wp2_with fail
  refine (K3.out _ T3.out).mono ?_
  rintro e w4 ⟨rfl, hb4⟩
  go_wp2_with fail
  go_ret
  exact ⟨rfl, HB3.out.trans (hb4.mono HB3.out.size)⟩
end Go.Proofs.YtdggijibmpbpdaaDoor
