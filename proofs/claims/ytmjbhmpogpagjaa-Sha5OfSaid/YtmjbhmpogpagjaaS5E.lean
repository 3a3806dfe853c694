/- The reference's step (layer 18): its walk. -/
import Derived.Test.YtmjbhmpogpagjaaS5C
namespace Go.Proofs.Ytmjbhmpogpagjaa
set_option maxRecDepth 20000
set_option linter.unusedSimpArgs false
set_option linter.unusedVariables false
open Go.RowKit
def G8 (w : World) (g v0 v1 v2 v3 v4 v5 v6 v7 : Nat) : Prop := w.cell? ⟨g, 0, none⟩ = some (.int .u64 (v0 : Int)) ∧ w.cell? ⟨g, 1, none⟩ = some (.int .u64 (v1 : Int)) ∧ w.cell? ⟨g, 2, none⟩ = some (.int .u64 (v2 : Int)) ∧ w.cell? ⟨g, 3, none⟩ = some (.int .u64 (v3 : Int)) ∧ w.cell? ⟨g, 4, none⟩ = some (.int .u64 (v4 : Int)) ∧ w.cell? ⟨g, 5, none⟩ = some (.int .u64 (v5 : Int)) ∧ w.cell? ⟨g, 6, none⟩ = some (.int .u64 (v6 : Int)) ∧ w.cell? ⟨g, 7, none⟩ = some (.int .u64 (v7 : Int))
theorem G8.map {w w' : World} {g v0 v1 v2 v3 v4 v5 v6 v7 : Nat} (h : G8 w g v0 v1 v2 v3 v4 v5 v6 v7) (f : ∀ {j : Nat} {v : Value}, w.cell? ⟨g, j, none⟩ = some v → w'.cell? ⟨g, j, none⟩ = some v) : G8 w' g v0 v1 v2 v3 v4 v5 v6 v7 := ⟨f h.1, f h.2.1, f h.2.2.1, f h.2.2.2.1, f h.2.2.2.2.1, f h.2.2.2.2.2.1, f h.2.2.2.2.2.2.1, f h.2.2.2.2.2.2.2⟩
theorem cell_below {w w' : World} {p : Addr} {v : Value} (h : w.cell? p = some v) (hb : Below w.heap.size w w') : w'.cell? p = some v := (hb.cell (World.block_lt_of_cell? w p h)).trans h
theorem G8.below {w w' : World} {g v0 v1 v2 v3 v4 v5 v6 v7 : Nat} (h : G8 w g v0 v1 v2 v3 v4 v5 v6 v7) (hb : Below w.heap.size w w') : G8 w' g v0 v1 v2 v3 v4 v5 v6 v7 := h.map fun h => cell_below h hb
theorem cell_alloc8 {w : World} {p : Addr} {v : Value} (o : Obj) (h : w.cell? p = some v) : (w.alloc o).cell? p = some v := by
  rw [World.cell?_alloc_some w p o (by rw [h]; rfl)]
  exact h
theorem G8.alloc {w : World} {g v0 v1 v2 v3 v4 v5 v6 v7 : Nat} (h : G8 w g v0 v1 v2 v3 v4 v5 v6 v7) (o : Obj) : G8 (w.alloc o) g v0 v1 v2 v3 v4 v5 v6 v7 := h.map fun h => cell_alloc8 o h
theorem G8.drew {w : World} {g v0 v1 v2 v3 v4 v5 v6 v7 : Nat} (h : G8 w g v0 v1 v2 v3 v4 v5 v6 v7) : G8 w.drew g v0 v1 v2 v3 v4 v5 v6 v7 := h.map fun h => h
theorem word_b (z : Int) (w : World) :
    Calls Try.prog 51 #[.int .u64 z] w fun e w' => e = .returned (.int .u64 z) ∧ Below w.heap.size w w' :=
  (word_any z w).mono fun e w' ⟨he, hw⟩ => ⟨he, by subst hw; exact Below.refl _ _⟩
theorem own_mono {w : World} {b b' n : Nat} {e : TypeId} {sz : Nat} {v : Value} {xs : List Value} (h : w.ownsRow b e sz v n xs) (hb : b' ≤ b) : w.ownsRow b' e sz v n xs := by
  obtain ⟨hl, h0 | ⟨g, cap, cur, rfl, hg, r⟩⟩ := h
  · exact ⟨hl, .inl h0⟩
  · exact ⟨hl, .inr ⟨g, cap, cur, rfl, by omega, r⟩⟩
theorem own_isW {w : World} {base n : Nat} {v : Value} {l : List Nat} (h : w.ownsRow base 36 1 v n (rowU l)) (h0 : 0 < n) (hl : l.length = n) : ∃ g cap, v = .slice (some ⟨g, 0, none⟩) n cap ∧ base ≤ g ∧ n ≤ cap ∧ IsW w g l := by
  obtain ⟨g, cap, rfl, hg, hc, hgl, hcell⟩ := own_cells h h0
  exact ⟨g, cap, rfl, hg, hc, hgl, fun i hi => hcell i (by omega)⟩
theorem rowU_get (l : List Nat) (j : Nat) (u : Value) (h : (rowU l)[j]? = some u) : j < l.length ∧ u = .int .u64 (l.getD j 0 : Int) := by
  unfold rowU at h
  rw [List.getElem?_map] at h
  by_cases hj : j < l.length
  · rw [List.getElem?_eq_getElem hj] at h
    refine ⟨hj, ?_⟩
    rw [List.getD_eq_getElem?_getD, List.getElem?_eq_getElem hj]
    exact (Option.some.inj h).symm
  · rw [List.getElem?_eq_none (by omega)] at h
    cases h
theorem isW_news {w : World} {g : Nat} {l : List Nat} (h : IsW w g l) : ∀ j u, (rowU l)[j]? = some u → w.cell? ((⟨g, 0, none⟩ : Addr).add j) = some u := fun j u hu => by
  obtain ⟨hj, rfl⟩ := rowU_get l j u hu
  have hadd : (⟨g, 0, none⟩ : Addr).add j = ⟨g, j, none⟩ := by unfold Addr.add; split <;> simp_all
  rw [hadd]
  exact h.2 j hj
theorem rowU_one (l : List Nat) : ∀ u ∈ rowU l, u.oneCell' = true := fun u hu => by
  unfold rowU at hu
  obtain ⟨x, _, rfl⟩ := List.mem_map.1 hu
  rfl
theorem IsW.grown {w w' : World} {g : Nat} {l : List Nat} {row : Option Nat} (h : IsW w g l) (hg : w.grownBy w' row) (hne : some g ≠ row) : IsW w' g l := by
  have hb := hg.block g h.1 hne
  refine ⟨Nat.lt_of_lt_of_le h.1 hg.size, fun i hi => ?_⟩
  rw [← h.2 i hi]
  simp only [World.cell?, hb]
theorem cell_lt {w : World} {g j : Nat} {v : Value} (h : w.cell? ⟨g, j, none⟩ = some v) : g < w.heap.size := by
  rcases Nat.lt_or_ge g w.heap.size with hl | hl
  · exact hl
  · rw [World.cell?, Array.getElem?_eq_none hl] at h
    cases h
theorem two_grown {w w' : World} {row : Option Nat} {g1 g2 j : Nat} {v1 v2 : Value} (h : w.cell? ⟨g1, j, none⟩ = some v1 ∧ w.cell? ⟨g2, j, none⟩ = some v2) (hg : w.grownBy w' row) (n1 : some g1 ≠ row) (n2 : some g2 ≠ row) : w'.cell? ⟨g1, j, none⟩ = some v1 ∧ w'.cell? ⟨g2, j, none⟩ = some v2 := by
  have b1 := hg.block g1 (cell_lt h.1) n1
  have b2 := hg.block g2 (cell_lt h.2) n2
  refine ⟨?_, ?_⟩
  · rw [← h.1]
    simp only [World.cell?, b1]
  · rw [← h.2]
    simp only [World.cell?, b2]
theorem two_alloc {w : World} {g1 g2 j : Nat} {v1 v2 : Value} (o : Obj) (h : w.cell? ⟨g1, j, none⟩ = some v1 ∧ w.cell? ⟨g2, j, none⟩ = some v2) : (w.alloc o).cell? ⟨g1, j, none⟩ = some v1 ∧ (w.alloc o).cell? ⟨g2, j, none⟩ = some v2 := by
  rw [World.cell?_alloc_some w _ o (by rw [h.1]; rfl), World.cell?_alloc_some w _ o (by rw [h.2]; rfl)]
  exact h
theorem own_empty (w : World) : (w.alloc (.cells #[] 36)).ownsRow w.heap.size 36 1 (.slice (some ⟨w.heap.size, 0, none⟩) 0 0) 0 (rowU []) :=
  ⟨rfl, .inr ⟨w.heap.size, 0, #[], rfl, Nat.le_refl _, by show (w.heap.push _)[w.heap.size]? = _; simp, Nat.le_refl _, by decide, rfl, rfl⟩⟩
set_option maxRecDepth 20000 in
set_option maxHeartbeats 16000000 in
theorem step_any (s : ByteArray) (hs : s.size = 128) (gh ch gk ck : Nat) (h k : List Nat) (w : World) (lh : h.length = 8) (lk : k.length = 80) (bh : ∀ x ∈ h, x < M64) (bk : ∀ x ∈ k, x < M64) (wh : IsW w gh h) (wk : IsW w gk k) (hch : 8 ≤ ch) (hck : 80 ≤ ck) :
    Calls Try.prog 31 #[.slice (some ⟨gh, 0, none⟩) 8 ch, .slice (some ⟨gk, 0, none⟩) 80 ck, .string s] w fun e w' => ∃ v, e = .returned v ∧ w'.ownsRow w.heap.size 36 1 v 8 (rowU (stepN h k (blockM s 16))) ∧ Below w.heap.size w w' := by
  obtain ⟨i0, hi, hz0, hz1, hz2⟩ := info_parts Try.sinfo_u64
  have K1 := Lib.hid (fun w => words_any s w hs)
  have hM : ∀ x ∈ blockM s 16, x < M64 := fun x hx => by
    unfold blockM at hx
    obtain ⟨t, ht, rfl⟩ := List.mem_map.1 hx
    have := List.mem_range.1 ht
    exact blockW_lt s t (by omega)
  have bw := wsN_lt (blockM s 16) hM 64
  have lw : (wsN (blockM s 16) 64).length = 80 := by rw [wsN_len, blockM_len]
  have HST : Hid (stepN h k (blockM s 16) = (List.range 8).map fun i => (h.getD i 0 + (rnds h k (wsN (blockM s 16) 64) 80).getD i 0) % M64) := rfl
  obtain ⟨ws, hws⟩ : ∃ ws, wsN (blockM s 16) 64 = ws := ⟨_, rfl⟩
  rw [hws] at K1 bw lw HST
  have HH := Lib.hid wh
  have HK := Lib.hid wk
  clear hM hws wh wk
  go_enter Try.func31, Try.ntmps31
  go_wp2_with fail
  refine (K1.out _).mono ?_
  rintro e w1 ⟨v1, rfl, hown1, hb1⟩
  obtain ⟨gw, cw, rfl, hgw, hcw, ww⟩ := own_isW hown1 (by omega) lw
  have HW := Lib.hid (ww.below ((Below.refl w1.heap.size w1).alloc (Nat.le_refl _) (.cells #[] 36)))
  have HH1 := Lib.hid ((HH.out.below hb1).below ((Below.refl w1.heap.size w1).alloc (Nat.le_refl _) (.cells #[] 36)))
  have HK1 := Lib.hid ((HK.out.below hb1).below ((Below.refl w1.heap.size w1).alloc (Nat.le_refl _) (.cells #[] 36)))
  have OE := Lib.hid (own_empty w1)
  have hsz := hb1.size
  have HB1 := Lib.hid (gr_alloc hb1 (.cells #[] 36))
  have GW := Lib.hid ww.1
  have GH := Lib.hid (HH.out.below hb1).1
  have GK := Lib.hid (HK.out.below hb1).1
  clear ww hown1 hb1 K1 HH HK hgw
  go_wp2_with (at_builtin; refine wpList_append_own _ (by rfl) (.tmp 20) (.tmp 21) 33 (by rfl) w1.heap.size 36 i0 (.int .u64 0) 1 8 Try.underlying33 hi hz0 hz1 hz2 rfl (by decide) _ 0 _ (by simp [Act.eval]; rfl) (by exact OE.out) ⟨gh, 0, none⟩ 8 ch (rowU h) (by simp [Act.eval]) (by rw [rowU_len, lh]) (by exact isW_news HH1.out) (by exact rowU_one h) (by unfold maxLen; omega) (by omega) (by simp) ?_; intro v3 w3 hown3 hgrow3 _)
  have hown3' : w3.ownsRow w1.heap.size 36 1 v3 8 (rowU h) := hown3
  obtain ⟨g3, c3, rfl, hg3, hc3, wv3⟩ := own_isW hown3' (by omega) lh
  have hgh := HH1.out.1
  have HW3 := Lib.hid (HW.out.grown hgrow3 (by simp [Value.ownBlock]; have := (show gw < w1.heap.size from GW.out); omega))
  have HH3 := Lib.hid (HH1.out.grown hgrow3 (by simp [Value.ownBlock]; have := (show gh < w1.heap.size from GH.out); omega))
  have HK3 := Lib.hid (HK1.out.grown hgrow3 (by simp [Value.ownBlock]; have := (show gk < w1.heap.size from GK.out); omega))
  have HB3 := Lib.hid (HB1.out.grown hgrow3 (by rw [World.size_alloc]; omega) (fun j hj => by simp [Value.ownBlock] at hj; omega))
  clear hown3 hown3' hgrow3 HW HH1 HK1 HB1 OE hgh GW GH GK hg3
  go_loopw [8, 9] (fun v i wr => ∃ t : Nat, t ≤ 80 ∧ i = .int .i64 (t : Int) ∧ (∃ g c, v = .slice (some ⟨g, 0, none⟩) 8 c ∧ IsW wr g (rnds h k ws t)) ∧ Below w3.heap.size w3 wr) (fun _ i _ => 80 - (Go.RowKit.intOf i).toNat)
  case atStart => exact ⟨0, by omega, rfl, ⟨g3, c3, rfl, wv3⟩, Below.refl _ _⟩
  case round =>
    obtain ⟨t, ht, rfl, ⟨g, c, rfl, wv⟩, hbe⟩ := hrel
    have lV := rnds_len h k ws lh t
    have bV := rnds_lt h k ws bh t
    have HR : Hid (rnds h k ws (t + 1) = rnd (rnds h k ws t) (k.getD t 0) (ws.getD t 0)) := rfl
    by_cases hlt : t < 80
    · have p1 : (t : Int) < 80 := by omega
      have hkw := HK3.out.below hbe
      have hww := HW3.out.below hbe
      obtain ⟨V, hV⟩ : ∃ V, rnds h k ws t = V := ⟨_, rfl⟩
      rw [hV] at wv lV bV HR
      obtain ⟨v0, hv0⟩ : ∃ v0, V.getD 0 0 = v0 := ⟨_, rfl⟩
      obtain ⟨v1, hv1⟩ : ∃ v1, V.getD 1 0 = v1 := ⟨_, rfl⟩
      obtain ⟨v2, hv2⟩ : ∃ v2, V.getD 2 0 = v2 := ⟨_, rfl⟩
      obtain ⟨v3, hv3⟩ : ∃ v3, V.getD 3 0 = v3 := ⟨_, rfl⟩
      obtain ⟨v4, hv4⟩ : ∃ v4, V.getD 4 0 = v4 := ⟨_, rfl⟩
      obtain ⟨v5, hv5⟩ : ∃ v5, V.getD 5 0 = v5 := ⟨_, rfl⟩
      obtain ⟨v6, hv6⟩ : ∃ v6, V.getD 6 0 = v6 := ⟨_, rfl⟩
      obtain ⟨v7, hv7⟩ : ∃ v7, V.getD 7 0 = v7 := ⟨_, rfl⟩
      obtain ⟨kt, hkt⟩ : ∃ kt, k.getD t 0 = kt := ⟨_, rfl⟩
      obtain ⟨wt, hwt⟩ : ∃ wt, ws.getD t 0 = wt := ⟨_, rfl⟩
      have C0 := wv.2 0 (by omega)
      have C1 := wv.2 1 (by omega)
      have C2 := wv.2 2 (by omega)
      have C3 := wv.2 3 (by omega)
      have C4 := wv.2 4 (by omega)
      have C5 := wv.2 5 (by omega)
      have C6 := wv.2 6 (by omega)
      have C7 := wv.2 7 (by omega)
      have CK := hkw.2 t (by omega)
      have CW := hww.2 t (by omega)
      rw [hv0] at C0
      rw [hv1] at C1
      rw [hv2] at C2
      rw [hv3] at C3
      rw [hv4] at C4
      rw [hv5] at C5
      rw [hv6] at C6
      rw [hv7] at C7
      rw [hkt] at CK
      rw [hwt] at CW
      have b0 : v0 < M64 := by rw [← hv0]; exact getD_lt bV 0
      have b1 : v1 < M64 := by rw [← hv1]; exact getD_lt bV 1
      have b2 : v2 < M64 := by rw [← hv2]; exact getD_lt bV 2
      have b3 : v3 < M64 := by rw [← hv3]; exact getD_lt bV 3
      have b4 : v4 < M64 := by rw [← hv4]; exact getD_lt bV 4
      have b5 : v5 < M64 := by rw [← hv5]; exact getD_lt bV 5
      have b6 : v6 < M64 := by rw [← hv6]; exact getD_lt bV 6
      have b7 : v7 < M64 := by rw [← hv7]; exact getD_lt bV 7
      have bkt : kt < M64 := by rw [← hkt]; exact getD_lt bk t
      have bwt : wt < M64 := by rw [← hwt]; exact getD_lt bw t
      have HR2 : Hid (rnds h k ws (t + 1) = [((v7 + big1 v4 + chooseN64 v4 v5 v6 + kt + wt) % M64 + (big0 v0 + mostN64 v0 v1 v2) % M64) % M64, v0, v1, v2, (v3 + (v7 + big1 v4 + chooseN64 v4 v5 v6 + kt + wt) % M64) % M64, v4, v5, v6]) := by
        show _ = _
        rw [HR.out]
        unfold rnd
        rw [hv0, hv1, hv2, hv3, hv4, hv5, hv6, hv7, hkt, hwt]
      clear hv0 hv1 hv2 hv3 hv4 hv5 hv6 hv7 hkt hwt HR hV lV bV
      have T6 : Hid (∀ w, Calls Try.prog 50 #[.int .u64 (v4 : Int), .int .i64 14] w fun e w' => e = .returned (.int .u64 (rotN 64 v4 14 : Int)) ∧ w = w') := fun w => turn_any v4 14 (by decide) w b4
      have T11 : Hid (∀ w, Calls Try.prog 50 #[.int .u64 (v4 : Int), .int .i64 18] w fun e w' => e = .returned (.int .u64 (rotN 64 v4 18 : Int)) ∧ w = w') := fun w => turn_any v4 18 (by decide) w b4
      have T25 : Hid (∀ w, Calls Try.prog 50 #[.int .u64 (v4 : Int), .int .i64 41] w fun e w' => e = .returned (.int .u64 (rotN 64 v4 41 : Int)) ∧ w = w') := fun w => turn_any v4 41 (by decide) w b4
      have T2 : Hid (∀ w, Calls Try.prog 50 #[.int .u64 (v0 : Int), .int .i64 28] w fun e w' => e = .returned (.int .u64 (rotN 64 v0 28 : Int)) ∧ w = w') := fun w => turn_any v0 28 (by decide) w b0
      have T13 : Hid (∀ w, Calls Try.prog 50 #[.int .u64 (v0 : Int), .int .i64 34] w fun e w' => e = .returned (.int .u64 (rotN 64 v0 34 : Int)) ∧ w = w') := fun w => turn_any v0 34 (by decide) w b0
      have T22 : Hid (∀ w, Calls Try.prog 50 #[.int .u64 (v0 : Int), .int .i64 39] w fun e w' => e = .returned (.int .u64 (rotN 64 v0 39 : Int)) ∧ w = w') := fun w => turn_any v0 39 (by decide) w b0
      have X1 := xor_u64 _ _ (rot_lt v4 14 b4) (rot_lt v4 18 b4)
      have X2 := xor_u64 _ _ (xor_lt (rot_lt v4 14 b4) (rot_lt v4 18 b4)) (rot_lt v4 41 b4)
      have X3 := xor_u64 _ _ (rot_lt v0 28 b0) (rot_lt v0 34 b0)
      have X4 := xor_u64 _ _ (xor_lt (rot_lt v0 28 b0) (rot_lt v0 34 b0)) (rot_lt v0 39 b0)
      have bB1 := big1_lt v4 b4
      have bB0 := big0_lt v0 b0
      have bCh := ch_lt v4 v5 v6 b5 b6
      have bMj := maj_lt v0 v1 v2 b1 b2
      have KCh := Lib.hid (fun w => three_ch v4 v5 v6 w b4 b5 b6)
      have KMj := Lib.hid (fun w => three_maj v0 v1 v2 w b0 b1 b2)
      obtain ⟨E1, hE1⟩ : ∃ E1, big1 v4 = E1 := ⟨_, rfl⟩
      obtain ⟨E0, hE0⟩ : ∃ E0, big0 v0 = E0 := ⟨_, rfl⟩
      obtain ⟨Ch, hCh⟩ : ∃ Ch, chooseN64 v4 v5 v6 = Ch := ⟨_, rfl⟩
      obtain ⟨Mj, hMj⟩ : ∃ Mj, mostN64 v0 v1 v2 = Mj := ⟨_, rfl⟩
      rw [hE1, hE0, hCh, hMj] at HR2
      rw [show rotN 64 v4 14 ^^^ rotN 64 v4 18 ^^^ rotN 64 v4 41 = E1 from hE1] at X2
      rw [show rotN 64 v0 28 ^^^ rotN 64 v0 34 ^^^ rotN 64 v0 39 = E0 from hE0] at X4
      rw [hCh] at KCh bCh
      rw [hMj] at KMj bMj
      rw [hE1] at bB1
      rw [hE0] at bB0
      clear hE1 hE0 hCh hMj
      have HBE := Lib.hid hbe
      have BND := Lib.hid (show v3 < M64 ∧ v7 < M64 ∧ E1 < M64 ∧ E0 < M64 ∧ Ch < M64 ∧ Mj < M64 ∧ kt < M64 ∧ wt < M64 from ⟨b3, b7, bB1, bB0, bCh, bMj, bkt, bwt⟩)
      clear wv hkw hww hbe b0 b1 b2 b3 b4 b5 b6 b7 bB1 bB0 bCh bMj bkt bwt bh bk bw lk lw
      go_wp2_with fail
      go_quiet (fail)
      go_wp2_with (first
        | (go_at_call_of 50 (Value.int .i64 14); refine (T6.out _).mono ?_; rintro e w1 ⟨rfl, rfl⟩)
        | (go_at_call_of 50 (Value.int .i64 18); refine (T11.out _).mono ?_; rintro e w1 ⟨rfl, rfl⟩)
        | (go_at_call_of 50 (Value.int .i64 41); refine (T25.out _).mono ?_; rintro e w1 ⟨rfl, rfl⟩)
        | (go_at_call_of 50 (Value.int .i64 28); refine (T2.out _).mono ?_; rintro e w1 ⟨rfl, rfl⟩)
        | (go_at_call_of 50 (Value.int .i64 34); refine (T13.out _).mono ?_; rintro e w1 ⟨rfl, rfl⟩)
        | (go_at_call_of 50 (Value.int .i64 39); refine (T22.out _).mono ?_; rintro e w1 ⟨rfl, rfl⟩))
      have HC : Hid (G8 (wr.drewN nq) g v0 v1 v2 v3 v4 v5 v6 v7) := ⟨C0, C1, C2, C3, C4, C5, C6, C7⟩
      have HBU : Hid (Below w3.heap.size w3 (wr.drewN nq)) := HBE.out.trans ⟨rfl, rfl, rfl, Nat.le_refl _, fun _ _ => rfl⟩
      have CK1 : (wr.drewN nq).cell? ⟨gk, t, none⟩ = _ := CK
      have CW1 : (wr.drewN nq).cell? ⟨gw, t, none⟩ = _ := CW
      clear C0 C1 C2 C3 C4 C5 C6 C7 CK CW HBE T6 T11 T25 T2 T13 T22 X1 X2 X3 X4
      generalize wr.drewN nq = U at HC HBU CK1 CW1 ⊢
      obtain ⟨n3, n7, nE1, nE0, nCh, nMj, nkt, nwt⟩ := BND.out
      unfold M64 at n3 n7 nE1 nE0 nCh nMj nkt nwt
      have HMIX := Lib.hid (show Try.prog.follows .mixedOrders = true by kernel_rfl)
      obtain ⟨x, hx⟩ : ∃ x, (v7 + E1 + Ch + kt + wt) % M64 = x := ⟨_, rfl⟩
      obtain ⟨y, hy⟩ : ∃ y, (E0 + Mj) % M64 = y := ⟨_, rfl⟩
      obtain ⟨i1, hi1⟩ : ∃ i1, (v7 + E1) % M64 = i1 := ⟨_, rfl⟩
      obtain ⟨i2, hi2⟩ : ∃ i2, (i1 + Ch) % M64 = i2 := ⟨_, rfl⟩
      obtain ⟨i3, hi3⟩ : ∃ i3, (i2 + kt) % M64 = i3 := ⟨_, rfl⟩
      have z1 := wrap_add v7 E1
      have z2 := wrap_add i1 Ch
      have z3 := wrap_add i2 kt
      have z4 := wrap_add i3 wt
      have z5 := wrap_add E0 Mj
      rw [show (i3 + wt) % M64 = x by rw [← hx, ← hi3, ← hi2, ← hi1]; unfold M64; omega] at z4
      rw [hi1] at z1
      rw [hi2] at z2
      rw [hi3] at z3
      rw [hy] at z5 HR2
      rw [hx] at HR2
      clear hi1 hi2 hi3
      have KX := Lib.hid (fun w => word_b (x : Int) w)
      have KY := Lib.hid (fun w => word_b (y : Int) w)
      have z6 := wrap_add x y
      have z7 := wrap_add v3 x
      obtain ⟨xa, hxa⟩ : ∃ xa, (x + y) % M64 = xa := ⟨_, rfl⟩
      obtain ⟨xe, hxe⟩ : ∃ xe, (v3 + x) % M64 = xe := ⟨_, rfl⟩
      rw [hxa] at z6 HR2
      rw [hxe] at z7 HR2
      have KA := Lib.hid (fun w => word_any (xa : Int) w)
      have KE := Lib.hid (fun w => word_any (xe : Int) w)
      clear hx hy hxa hxe n3 n7 nE1 nE0 nCh nMj nkt nwt BND
      obtain ⟨C0, C1, C2, C3, C4, C5, C6, C7⟩ := HC.out
      have D5 := fun d os => cell_regrown C5 d os
      have D6 := fun d os => cell_regrown C6 d os
      have D7 := fun d os => cell_regrown C7 d os
      have DK := fun d os => cell_regrown CK1 d os
      have DW := fun d os => cell_regrown CW1 d os
      clear C0 C1 C2 C3 C4 C5 C6 C7 CK1 CW1
      refine wp_region_quiet_below HMIX.out (by kernel_rfl) ?_
      repeat (go_big_quiet_step (first
        | (go_at_call 52; exact Calls.regrown_of (KCh.out _))
        | (go_at_call 51; exact Calls.regrown_of (KX.out _))))
      refine wpQuiet_nil ?_
      intro _ hw'
      obtain ⟨⟨nq1, os1⟩, hw''⟩ := hw'
      subst hw''
      have HC2 := Lib.hid (HC.out.below (below_regrown U nq1 os1))
      have HBU2 := Lib.hid (HBU.out.trans ((below_regrown U nq1 os1).mono HBU.out.size))
      clear D5 D6 D7 DK DW HC HBU KCh KX z1 z2 z3 z4
      generalize Sort.grow (redrawn U nq1) os1 = U2 at HC2 HBU2 ⊢
      obtain ⟨C0, C1, C2, C3, C4, C5, C6, C7⟩ := HC2.out
      have D1 := fun d os => cell_regrown C1 d os
      have D2 := fun d os => cell_regrown C2 d os
      clear C0 C1 C2 C3 C4 C5 C6 C7
      go_wp2_with fail
      refine wp_region_quiet_below HMIX.out (by kernel_rfl) ?_
      repeat (go_big_quiet_step (first
        | (go_at_call 52; exact Calls.regrown_of (KMj.out _))
        | (go_at_call 51; exact Calls.regrown_of (KY.out _))))
      refine wpQuiet_nil ?_
      intro _ hw'
      obtain ⟨⟨nq2, os2⟩, hw''⟩ := hw'
      subst hw''
      have HC3 := Lib.hid (HC2.out.below (below_regrown U2 nq2 os2))
      have HBU3 := Lib.hid (HBU2.out.trans ((below_regrown U2 nq2 os2).mono HBU2.out.size))
      clear D1 D2 HC2 HBU2 KMj KY z5
      generalize Sort.grow (redrawn U2 nq2) os2 = U3 at HC3 HBU3 ⊢
      obtain ⟨C0, C1, C2, C3, C4, C5, C6, C7⟩ := HC3.out
      go_wp2_with fail
      go_region_held3 (fun w' => w'.cell? ⟨g, 0, none⟩ = some (.int .u64 (v0 : Int)) ∧ w'.cell? ⟨g, 1, none⟩ = some (.int .u64 (v1 : Int)) ∧ w'.cell? ⟨g, 2, none⟩ = some (.int .u64 (v2 : Int)) ∧ w'.cell? ⟨g, 3, none⟩ = some (.int .u64 (v3 : Int)) ∧ w'.cell? ⟨g, 4, none⟩ = some (.int .u64 (v4 : Int)) ∧ w'.cell? ⟨g, 5, none⟩ = some (.int .u64 (v5 : Int)) ∧ w'.cell? ⟨g, 6, none⟩ = some (.int .u64 (v6 : Int))) (first | (with_reducible exact ⟨C0, C1, C2, C3, C4, C5, C6⟩) | (exact (fun h => ⟨h.1, h.2.1, h.2.2.1, h.2.2.2.1, h.2.2.2.2.1, h.2.2.2.2.2.1, h.2.2.2.2.2.2.1⟩ : G8 _ g v0 v1 v2 v3 v4 v5 v6 v7 → _) (HC3.out.alloc _).drew) | go_keep) (first
        | (go_at_call_of 51 (Value.int .u64 (xa : Int)); go_must (refine (KA.out _).mono ?_); rintro e w' ⟨rfl, rfl⟩)
        | (go_at_call_of 51 (Value.int .u64 (xe : Int)); go_must (refine (KE.out _).mono ?_); rintro e w' ⟨rfl, rfl⟩))
      all_goals
        rename_i hH
        clear hH
        go_wp2_with fail
        go_roundw
        case rel =>
          refine ⟨t + 1, by omega, congrArg (Value.int .i64) (by omega), ⟨_, 8, rfl, ?_⟩, (HBU3.out.alloc HBU3.out.size _).drew⟩
          rw [HR2.out]
          exact new8 U3 xa v0 v1 v2 xe v4 v5 v6
        case measure =>
          simp [Go.RowKit.intOf]
          omega
    · obtain rfl : t = 80 := by omega
      have p1 : ¬ (80 : Int) < 80 := by omega
      have hb4 : Below w.heap.size w wr := HB3.out.trans (hbe.mono HB3.out.size)
      have whr := HH3.out.below hbe
      obtain ⟨V, hV⟩ : ∃ V, rnds h k ws 80 = V := ⟨_, rfl⟩
      rw [hV] at wv lV bV HST
      have HB4 := Lib.hid hb4
      have HV := Lib.hid wv
      have HHr := Lib.hid whr
      clear hb4 wv whr hV HR hbe HW3 HK3 HH3 HB3
      go_wp2_with fail
      obtain ⟨W4, hW4⟩ : ∃ W4, W4 = wr := ⟨_, rfl⟩
      subst hW4
      go_loopw [16, 17] (fun v i wq => ∃ j : Nat, j ≤ 8 ∧ i = .int .i64 (j : Int) ∧ wq.ownsRow W4.heap.size 36 1 v j (rowU ((List.range j).map fun i => (h.getD i 0 + V.getD i 0) % M64)) ∧ Below W4.heap.size W4 wq) (fun _ i _ => 8 - (Go.RowKit.intOf i).toNat)
      case atStart => exact ⟨0, by omega, rfl, World.ownsRow_nil _ _ _ _, Below.refl _ _⟩
      case round =>
        obtain ⟨j, hj, rfl, hown, hbe⟩ := hrel
        by_cases hlt : j < 8
        · have p2 : (j : Int) < 8 := by omega
          have CH := (HHr.out.below hbe).2 j (by omega)
          have CV := (HV.out.below hbe).2 j (by omega)
          have HS : Hid (((List.range (j + 1)).map fun i => (h.getD i 0 + V.getD i 0) % M64) = ((List.range j).map fun i => (h.getD i 0 + V.getD i 0) % M64) ++ [(h.getD j 0 + V.getD j 0) % M64]) := by
            show _ = _
            rw [List.range_succ, List.map_append]
            rfl
          have ba := getD_lt bh j
          have bb := getD_lt bV j
          obtain ⟨a, ha⟩ : ∃ a, h.getD j 0 = a := ⟨_, rfl⟩
          obtain ⟨b, hb⟩ : ∃ b, V.getD j 0 = b := ⟨_, rfl⟩
          rw [ha] at CH ba HS
          rw [hb] at CV bb HS
          unfold M64 at ba bb
          have z1 := wrap_add a b
          obtain ⟨x, hx⟩ : ∃ x, (a + b) % M64 = x := ⟨_, rfl⟩
          rw [hx] at z1 HS
          have KW := Lib.hid (fun w => word_any (x : Int) w)
          have HOW := Lib.hid hown
          have HBQ := Lib.hid hbe
          have hsq := hbe.size
          clear ha hb hx ba bb hown hbe bh bV bk bw lV lk lw
          go_wp2_with fail
          go_region_held3 (fun w' => w'.cell? ⟨gh, j, none⟩ = some (.int .u64 (a : Int)) ∧ w'.cell? ⟨g, j, none⟩ = some (.int .u64 (b : Int))) (first | (with_reducible assumption) | (exact ⟨CH, CV⟩) | (exact two_grown (by with_reducible assumption) hgrow2 (fun e => Nat.not_le_of_lt HHr.out.1 (HOW.out.lt _ e.symm).1) (fun e => Nat.not_le_of_lt HV.out.1 (HOW.out.lt _ e.symm).1)) | (exact two_alloc _ ⟨CH, CV⟩) | go_keep) (first
            | (go_at_call 51; go_must (refine (KW.out _).mono ?_); rintro e w' ⟨rfl, rfl⟩)
            | (refine step_append_own (by rfl) (.tmp 118) (.tmp 129) 33 (by rfl) W4.heap.size 36 i0 (.int .u64 0) 1 8 Try.underlying33 hi hz0 hz1 hz2 rfl (by decide) _ j _ (by simp [Act.eval]; rfl) (by exact HOW.out.alloc _) ⟨wr.heap.size, 0, none⟩ 1 1 [.int .u64 (x : Int)] (by simp [Act.eval]) rfl (by exact news_new wr #[_] _) (by simp [Value.oneCell']) (by unfold maxLen; omega) (by omega) (by simp; omega) ?_; intro v2 w2 hown2 hgrow2))
          all_goals
            rename_i hH
            clear hH
            go_wp2_with fail
            go_roundw
            case rel =>
              refine ⟨j + 1, by omega, congrArg (Value.int .i64) (by omega), ?_, ((gr_alloc HBQ.out _).drew).grown hgrow2 (by simp; omega) (fun q hq => (HOW.out.lt q hq).1)⟩
              rw [HS.out, rowU_snoc]
              exact hown2
            case measure =>
              simp [Go.RowKit.intOf]
              omega
        · obtain rfl : j = 8 := by omega
          have p2 : ¬ (8 : Int) < 8 := by omega
          have hs4 := HB4.out.size
          have HOW := Lib.hid (own_mono hown hs4)
          have HBF := Lib.hid (HB4.out.trans (hbe.mono hs4))
          clear hown hbe
          go_wp2_with fail
          go_ret
          exact ⟨_, rfl, by rw [HST.out]; exact HOW.out, HBF.out⟩
end Go.Proofs.Ytmjbhmpogpagjaa
