/- The law's lives; both Tops (layer 32). -/
import Derived.Test.YtbheiglbejokmaaKepL
namespace Go.Proofs.Ytbheiglbejokmaa
set_option maxRecDepth 20000
set_option linter.unusedSimpArgs false
set_option linter.unusedVariables false
open Go.RowKit Go.Sort Go.Lib Go.MapKept
attribute [local go_sem] Oper.semAt_some
theorem rtop_any (w : World) (v : Int) :
    Calls Try.prog 20 #[.int .i64 v] w fun e w' => ∃ x, e = .returned (.tuple #[x, .bool (verB v)]) ∧ TxAt w' x (topL v) ∧ Below w.heap.size w w' := by
  rcases hv : verB v with _ | _
  · have hL : topL v = [] := by simp [topL, hv]
    rw [hL]
    have KO := Lib.hid (rof_not v w hv)
    clear hv hL
    go_enter Try.func20, Try.ntmps20
    go_wp2_with (go_at_call 51; refine KO.out.mono ?_; rintro e w1 ⟨rfl, rfl⟩)
    exact bodyPost_ret (results_tt rfl rfl rfl) rfl ⟨_, rfl, .inl ⟨rfl, rfl⟩, Below.refl _ _⟩
  · have hL : topL v = selT all15 (ysT (gF v)) 15 := by
      rw [topL, hv, if_pos rfl]
      exact srt_of (fin_top (gF v))
    rw [hL]
    rcases hF : gF v with _ | _
    · exact rtop_false w v hv hF
    · exact rtop_true w v hv hF
theorem tx_one {w : World} {x : Value} {l : List ByteArray} (s : ByteArray) (h : TxAt w x l) (hl : l = [s]) : ∃ g cap, x = .slice (some ⟨g, 0, none⟩) 1 cap ∧ 1 ≤ cap ∧ w.cell? ⟨g, 0, none⟩ = some (.string s) := by
  subst hl
  obtain ⟨a, cap, rfl, h1, _, h2⟩ := h.open_
  obtain ⟨g, rfl, h3⟩ := h2 0 (by simp)
  exact ⟨g, cap, rfl, h1, h3⟩
theorem cont_1 : contL 1 kk_mem = [kk_membership] :=
  (cont_at (v := 1) (kind := kk_mem) (l := [kk_membership]) (by decide +kernel) (by decide +kernel) (by decide +kernel)).symm
theorem tl_ms : kk_membership.toList = [109, 101, 109, 98, 101, 114, 115, 104, 105, 112] := by kernel_rfl
theorem keepLives_any (w : World) : Calls Try.prog 26 #[] w fun e w' => e = .returned (.bool true) ∧ Below w.heap.size w w' := by
  have K1 := Lib.hid (fun W => content_any W 1 kk_mem)
  have K2 := Lib.hid (fun W => content_any W 11 kk_cre)
  have K3 := Lib.hid (fun W => inner_any W 11 kk_mem kk_inv3)
  rw [cont_1, show allB 1 kk_mem = false from by decide +kernel] at K1
  rw [show allB 11 kk_cre = true from by decide +kernel] at K2
  rw [show innerB 11 kk_mem kk_inv3 = true from by decide +kernel, show innerL true = [kk_signed] from rfl] at K3
  obtain ⟨s1, es1⟩ : ∃ z, z = kk_membership := ⟨_, rfl⟩
  obtain ⟨s2, es2⟩ : ∃ z, z = kk_signed := ⟨_, rfl⟩
  have c1 : (s1.toList == [109, 101, 109, 98, 101, 114, 115, 104, 105, 112]) = true := by rw [es1]; decide +kernel
  have c2 : (s2.toList == [115, 105, 103, 110, 101, 100]) = true := by rw [es2]; decide +kernel
  rw [← es1] at K1
  rw [← es2] at K3
  clear es1 es2
  go_enter Try.func26, Try.ntmps26
  go_upto_region 2 with (go_at_call 22; refine (K1.out w).mono ?_; rintro e w1 ⟨x1, rfl, t1, b1⟩)
  have T1 := Lib.hid t1
  have B1 := Lib.hid b1
  clear t1 b1
  go_upto_region 3 with (go_at_call 22; refine (K2.out w1).mono ?_; rintro e w2 ⟨x2, rfl, t2, b2⟩)
  have T2 := Lib.hid (T1.out.keep b2)
  have B2 := Lib.hid (B1.out.trans (b2.mono B1.out.size))
  clear t2 b2 T1 B1
  go_upto_region 4 with (go_at_call 24; refine (K3.out w2).mono ?_; rintro e w3 ⟨x3, rfl, t3, b3⟩)
  obtain ⟨g1, k1, rfl, l1, h1⟩ := tx_one s1 (T2.out.keep b3) rfl
  obtain ⟨g3, k3, rfl, l3, h3⟩ := tx_one s2 t3 rfl
  have B3 := Lib.hid (B2.out.trans (b3.mono B2.out.size))
  clear t3 b3 T2 B2 K1 K2 K3
  go_wp2_with fail
  exact bodyPost_ret (results_slot rfl rfl) rfl ⟨rfl, B3.out⟩
end Go.Proofs.Ytbheiglbejokmaa
