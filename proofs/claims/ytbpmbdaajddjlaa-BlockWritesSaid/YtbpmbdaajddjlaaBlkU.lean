/- The law BlockWrites, layer 16. -/
import Derived.Test.YtbpmbdaajddjlaaBlkS
import Derived.Test.YtbpmbdaajddjlaaBlkT
import Derived.Test.YtbpmbdaajddjlaaTexts
namespace Go.Proofs.Ytbpmbdaajddjlaa
open Go.RowKit
theorem new_out (size : Int) (w : World) (h : size < 1 ∨ 256 < size) : Calls Try.prog 10 #[.int .i64 size] w fun e w' => e = .returned (.pointer none) ∧ w = w' := by
  go_enter Try.func10, Try.ntmps10
  go_wp2_with fail
  all_goals first
    | (exfalso; omega)
    | (go_ret; exact ⟨rfl, rfl⟩)
theorem own_base {w : World} {b b' n : Nat} {e : TypeId} {v : Value} {xs : List Value} (h : w.ownsRow b e 1 v n xs) (hb : b' ≤ b) : w.ownsRow b' e 1 v n xs :=
  ⟨h.1, h.2.imp id fun ⟨g, cap, cur, h1, h2, h3⟩ => ⟨g, cap, cur, h1, Nat.le_trans hb h2, h3⟩⟩
theorem write_one (N0 g size m : Nat) (q s : List UInt8) (W : World) (hN : N0 ≤ W.heap.size) (h : IsBuf W g size q m) (hq : q.length < size) (hsz : size ≤ 256) (hm : m + s.length ≤ 1000000) :
    Calls Try.prog 5 #[.pointer (some ⟨g, 0, none⟩), .slice (some ⟨W.heap.size, 0, none⟩) 1 1] (W.alloc (.cells #[strV s] 9)) fun e w' => ∃ v bl q', e = .returned v ∧ w'.ownsRow N0 9 1 v bl.length (bl.map strV) ∧ Cuts size (q ++ s) bl q' ∧ IsBuf w' g size q' (m + s.length) ∧ W.grownBy w' (some g) := by
  have hw := write_any g size m W.heap.size 1 q [s] (W.alloc (.cells #[strV s] 9)) (h.of_block (Below.heap_alloc _ _ _ h.lt)) hq hsz (by
    intro i hi
    have hn : (W.alloc (.cells [strV s].toArray 9)).heap[W.heap.size]? = some (.cells [strV s].toArray 9 (0, 0)) := alloc_new W _
    have hi2 : i < 1 := hi
    refine (arr_get hn ?_).1
    match i, hi2 with
    | 0, _ => rfl) (by have := h.lt; omega) (by simp) (by simp; omega)
  refine hw.mono ?_
  rintro e w2 ⟨v, bl, q', rfl, hown, hcut, hbuf, hgr⟩
  simp only [List.flatten_cons, List.flatten_nil, List.append_nil] at hcut hbuf
  exact ⟨v, bl, q', rfl, own_base hown (by rw [show (W.alloc (.cells #[strV s] 9)).heap.size = W.heap.size + 1 from Array.size_push ..]; omega), hcut, hbuf, grown_step (grown_alloc W _ _) hgr⟩
theorem write_two (N0 g size m : Nat) (q s t : List UInt8) (W : World) (hN : N0 ≤ W.heap.size) (h : IsBuf W g size q m) (hq : q.length < size) (hsz : size ≤ 256) (hm : m + (s ++ t).length ≤ 1000000) :
    Calls Try.prog 5 #[.pointer (some ⟨g, 0, none⟩), .slice (some ⟨W.heap.size, 0, none⟩) 2 2] (W.alloc (.cells #[strV s, strV t] 9)) fun e w' => ∃ v bl q', e = .returned v ∧ w'.ownsRow N0 9 1 v bl.length (bl.map strV) ∧ Cuts size (q ++ (s ++ t)) bl q' ∧ IsBuf w' g size q' (m + (s ++ t).length) ∧ W.grownBy w' (some g) := by
  have hw := write_any g size m W.heap.size 2 q [s, t] (W.alloc (.cells #[strV s, strV t] 9)) (h.of_block (Below.heap_alloc _ _ _ h.lt)) hq hsz (by
    intro i hi
    have hn : (W.alloc (.cells [strV s, strV t].toArray 9)).heap[W.heap.size]? = some (.cells [strV s, strV t].toArray 9 (0, 0)) := alloc_new W _
    have hi2 : i < 2 := hi
    refine (arr_get hn ?_).1
    match i, hi2 with
    | 0, _ => rfl
    | 1, _ => rfl) (by have := h.lt; omega) (by simp) (by simp only [List.flatten_cons, List.flatten_nil, List.append_nil]; omega)
  refine hw.mono ?_
  rintro e w2 ⟨v, bl, q', rfl, hown, hcut, hbuf, hgr⟩
  simp only [List.flatten_cons, List.flatten_nil, List.append_nil] at hcut hbuf
  exact ⟨v, bl, q', rfl, own_base hown (by rw [show (W.alloc (.cells #[strV s, strV t] 9)).heap.size = W.heap.size + 1 from Array.size_push ..]; omega), hcut, hbuf, grown_step (grown_alloc W _ _) hgr⟩
theorem cat_str (q s : List UInt8) : Value.string ((⟨q.toArray⟩ : ByteArray) ++ ⟨s.toArray⟩) = strV (q ++ s) := by
  unfold strV
  congr 1
theorem own_keep {w W' : World} {base n : Nat} {e : TypeId} {v : Value} {xs : List Value} (h : w.ownsRow base e 1 v n xs) (hb : Below w.heap.size w W') : W'.ownsRow base e 1 v n xs :=
  h.kept (row := none) ⟨hb.os, hb.tape, hb.output, hb.size, fun k hk _ => hb.block k hk⟩ (by cases v.ownBlock <;> simp)
theorem own_slice {w : World} {base : Nat} {v : Value} {bl : List (List UInt8)} (h : w.ownsRow base 9 1 v bl.length (bl.map strV)) :
    ∃ a cap, v = .slice a bl.length cap ∧ ∀ i, (hi : i < bl.length) → ∃ g1, a = some ⟨g1, 0, none⟩ ∧ w.cell? ⟨g1, i, none⟩ = some (strV bl[i]) := by
  rcases h.2 with ⟨rfl, h0⟩ | ⟨g1, cap, cur, rfl, _, hg, hn, _, hcur, htake⟩
  · exact ⟨none, 0, by rw [h0], fun i hi => by omega⟩
  · refine ⟨_, cap, rfl, fun i hi => ⟨g1, rfl, ?_⟩⟩
    have h1 : (cur.toList.take (bl.length * 1))[i]? = some (strV bl[i]) := by rw [htake]; simp [hi]
    rw [List.getElem?_take, if_pos (by omega)] at h1
    simpa [World.cell?, hg] using h1
set_option maxRecDepth 20000 in
set_option maxHeartbeats 4000000 in
theorem blockWrites_w (size : Int) (a : Option Addr) (len cap : Nat) (ss : List ByteArray) (w : World) (ht : IsTexts w a len cap ss) :
    Calls Try.prog 3 #[.int .i64 size, .slice a len cap] w fun e w' => e = .returned (.bool true) ∧ Below w.heap.size w w' := by
  have HT := Lib.hid ht
  have HL := Lib.hid lives16
  have HWn := Lib.hid Write_nil
  have HRn := Lib.hid Rest_nil
  have HLn := Lib.hid len_nil
  have HCn := Lib.hid Copy_nil
  clear ht
  have hb0 := Below.refl w.heap.size w
  by_cases h20 : 20 < len
  · have h20' : (20 : Int) < (len : Int) := by omega
    go_enter Try.func3, Try.ntmps3
    go_wp2_with (first
      | (go_at_call 5; refine (HWn.out _ _).mono ?_; rintro e w' ⟨rfl, rfl⟩)
      | (go_at_call 6; refine (HRn.out _).mono ?_; rintro e w' ⟨rfl, rfl⟩)
      | (go_at_call 7; refine (HLn.out _).mono ?_; rintro e w' ⟨rfl, rfl⟩)
      | (go_at_call 8; refine (HCn.out _).mono ?_; rintro e w' ⟨rfl, rfl⟩)
      | (go_at_call 9; refine (HL.out _).mono ?_; rintro e w' ⟨rfl, hb⟩))
    go_ret
    exact ⟨rfl, gr_step (gr_alloc hb0 _) hb⟩
  have h20' : ¬ (20 : Int) < (len : Int) := by omega
  by_cases hs : size < 1
  · have HN := Lib.hid (new_out size (w.alloc (.cells #[.string ⟨#[97]⟩] 9)) (.inl hs))
    go_enter Try.func3, Try.ntmps3
    go_wp2_with (first
      | (go_at_call 5; refine (HWn.out _ _).mono ?_; rintro e w' ⟨rfl, rfl⟩)
      | (go_at_call 6; refine (HRn.out _).mono ?_; rintro e w' ⟨rfl, rfl⟩)
      | (go_at_call 7; refine (HLn.out _).mono ?_; rintro e w' ⟨rfl, rfl⟩)
      | (go_at_call 8; refine (HCn.out _).mono ?_; rintro e w' ⟨rfl, rfl⟩)
      | (go_at_call 10; refine HN.out.mono ?_; rintro e w' ⟨rfl, rfl⟩)
      | (go_at_call 9; refine (HL.out _).mono ?_; rintro e w' ⟨rfl, hb⟩))
    all_goals first
      | (exfalso; omega)
      | (go_ret; exact ⟨rfl, gr_step (gr_alloc hb0 _) hb⟩)
  by_cases hs' : 256 < size
  · have HN := Lib.hid (new_out size (w.alloc (.cells #[.string ⟨#[97]⟩] 9)) (.inr hs'))
    have q1 : decide (size < 1) = false := by simp; omega
    have q2 : decide (256 < size) = true := by simp; omega
    clear hs hs'
    go_enter Try.func3, Try.ntmps3
    go_wp2_with (first
      | (go_at_call 5; refine (HWn.out _ _).mono ?_; rintro e w' ⟨rfl, rfl⟩)
      | (go_at_call 6; refine (HRn.out _).mono ?_; rintro e w' ⟨rfl, rfl⟩)
      | (go_at_call 7; refine (HLn.out _).mono ?_; rintro e w' ⟨rfl, rfl⟩)
      | (go_at_call 8; refine (HCn.out _).mono ?_; rintro e w' ⟨rfl, rfl⟩)
      | (go_at_call 10; refine HN.out.mono ?_; rintro e w' ⟨rfl, rfl⟩)
      | (go_at_call 9; refine (HL.out _).mono ?_; rintro e w' ⟨rfl, hb⟩))
    all_goals first
      | (exfalso; omega)
      | (go_ret; exact ⟨rfl, gr_step (gr_alloc hb0 _) hb⟩)
  have hs1 : 1 ≤ size := by omega
  have hs2 : size ≤ 256 := by omega
  obtain ⟨size, rfl⟩ := Int.eq_ofNat_of_zero_le (show 0 ≤ size by omega)
  have k1 : 1 ≤ size := by omega
  have k2 : size ≤ 256 := by omega
  have HN := Lib.hid (new_in size (w.alloc (.cells #[.string ⟨#[97]⟩] 9)) k1 k2)
  have HH := Lib.hid h20
  have q1 : decide ((size : Int) < 1) = false := by simp; omega
  have q2 : decide ((256 : Int) < (size : Int)) = false := by simp; omega
  clear h20 hs hs' hs1 hs2
  go_enter Try.func3, Try.ntmps3
  go_wp2_with (first
      | (go_at_call 5; refine (HWn.out _ _).mono ?_; rintro e w' ⟨rfl, rfl⟩)
      | (go_at_call 6; refine (HRn.out _).mono ?_; rintro e w' ⟨rfl, rfl⟩)
      | (go_at_call 7; refine (HLn.out _).mono ?_; rintro e w' ⟨rfl, rfl⟩)
      | (go_at_call 8; refine (HCn.out _).mono ?_; rintro e w' ⟨rfl, rfl⟩)
      | (go_at_call 10; refine HN.out.mono ?_; rintro e w1 ⟨rfl, hbuf, hbe⟩)
      | (go_at_call 9; refine (HL.out _).mono ?_; rintro e w' ⟨rfl, hb⟩))
  have hG : w.heap.size ≤ w.heap.size + 1 := by omega
  have hb1 : Below w.heap.size w w1 := gr_step (gr_alloc hb0 _) hbe
  rw [show (w.alloc (.cells #[.string ⟨#[97]⟩] 9)).heap.size = w.heap.size + 1 from Array.size_push ..] at hbuf
  have HB1 := Lib.hid hb1
  have HBU := Lib.hid hbuf
  clear HN hbe hb0 hb1 hbuf HWn HRn HLn HCn q1 q2
  generalize w.heap.size + 1 = g at *
  go_loopw [7, 8, 64] (fun x y i W => ∃ j m : Nat, ∃ q : List UInt8, j ≤ len ∧ i = .int .i64 (j : Int) ∧ x = strV q ∧ y = .int .i64 (m : Int) ∧ m ≤ j * 600 ∧ q.length < size ∧ IsBuf W g size q m ∧ Below w.heap.size w W) (fun _ _ i _ => len - (intOf i).toNat)
  case atStart => exact ⟨0, 0, [], by omega, rfl, rfl, rfl, by omega, by show 0 < size; omega, HBU.out, HB1.out⟩
  case round =>
    clear HB1 HBU
    obtain ⟨j, m, q, hj, rfl, rfl, rfl, hm, hq, hbuf, hbe⟩ := hrel
    by_cases hlt : j < len
    · obtain ⟨b, off, rfl, hb, hcell, hsz⟩ := texts_at HT.out (show 0 < len by omega)
      have c1 : wr.cell? ⟨b, off + j, none⟩ = some (.string (ss.getD j ByteArray.empty)) := by
        rw [← hcell j hlt]
        exact World.cell?_of_block (w := w) (a := ⟨b, off + j, none⟩) (hbe.block b hb)
      have hsz1 := hsz j hlt
      have HH2 : Hid (j < 20) := by have := HH.out; show j < 20; omega
      generalize ss.getD j ByteArray.empty = S at *
      clear hcell hsz
      have HBU := Lib.hid hbuf
      have HBE := Lib.hid hbe
      clear hbuf hbe
      by_cases h600 : 600 < S.size
      · go_wp2_with (go_at_call 9; refine (HL.out _).mono ?_; rintro e w' ⟨rfl, hb⟩)
        go_ret
        exact ⟨rfl, gr_step HBE.out hb⟩
      · have k3 : S.size ≤ 600 := by omega
        have HBE0 := Lib.hid HBE.out.size
        have HCo := Lib.hid (Copy_any g size m q wr HBU.out)
        clear h600
        obtain ⟨sl, hsl⟩ : ∃ sl : List UInt8, S = ⟨sl.toArray⟩ := ⟨S.data.toList, by cases S; simp⟩
        have HSL := Lib.hid hsl
        have hsn : S.size = sl.length := by rw [hsl]; rfl
        clear hsl
        go_wp2_with fail
        refine HCo.out.mono ?_
        rintro e w2 ⟨rfl, hbc, hb2⟩
        have hbu2 : IsBuf w2 g size q m := HBU.out.of_block (hb2.block g HBU.out.lt)
        have hgc := HBU.out.lt
        have hbe2 := gr_step HBE.out hb2
        have HW1 := Lib.hid (write_one w2.heap.size g size m q sl w2 (Nat.le_refl _) hbu2 hq k2 (by have := HH2.out; omega))
        rw [show strV sl = .string S by rw [HSL.out]; rfl] at HW1
        have HBC := Lib.hid hbc
        have HB2 := Lib.hid hbe2
        have hlt2 := hbc.lt
        clear hbc hbu2 hb2 hbe2 HCo HBE HBU
        go_wp2_with fail
        refine HW1.out.mono ?_
        rintro e w3 ⟨v1, bl, q1, rfl, hown1, hcut1, hbuf1, hgr1⟩
        have hbc3 : IsBuf w3 wr.heap.size size q m := HBC.out.of_block (hgr1.block _ hlt2 (by simp; omega))
        have HSZ := Lib.hid hgr1.size
        have hbe3 := HB2.out.grown hgr1 HB2.out.size (fun k hk => by cases hk; exact hG)
        obtain ⟨X, hX⟩ : ∃ X : ByteArray, X = ⟨q.toArray⟩ := ⟨_, rfl⟩
        have HC := Lib.hid (cut_any size (q ++ sl) w3 k1 k2 (by rw [List.length_append]; omega))
        rw [show strV (q ++ sl) = .string (X ++ S) by rw [← cat_str, hX, HSL.out]] at HC
        rw [show strV q = .string X by rw [hX]; rfl]
        have HO1 := Lib.hid hown1
        have HC1 := Lib.hid hcut1
        have HBF := Lib.hid hbuf1
        have HB3 := Lib.hid hbe3
        have HBC3 := Lib.hid hbc3
        have hxz : X.size = q.length := by rw [hX]; rfl
        have HX := Lib.hid hX
        have lg3 := hbuf1.lt
        have lc3 := hbc3.lt
        clear hown1 hcut1 hbuf1 hgr1 hbc3 hbe3 HBC HB2 HW1 hX
        go_wp2_with fail
        refine HC.out.mono ?_
        rintro e w4 ⟨v2, bl2, q2, rfl, hown2, hcut2, hbe4⟩
        obtain ⟨rfl, rfl⟩ := Cuts.one HC1.out hcut2
        have HO1' := Lib.hid (own_keep HO1.out hbe4)
        have HO2 := Lib.hid (own_base hown2 HSZ.out)
        have HBF4 : Hid (IsBuf w4 g size q1 (m + sl.length)) := HBF.out.of_block (hbe4.block g lg3)
        have HBC4 : Hid (IsBuf w4 wr.heap.size size q m) := HBC3.out.of_block (hbe4.block _ lc3)
        have HB4 := Lib.hid (gr_step HB3.out hbe4)
        clear hown2 hcut2 hbe4 HC HO1 HBF HBC3 HB3
        go_wp2_with fail
        obtain ⟨hf, hhf⟩ : ∃ hf, sl.length / 2 = hf := ⟨_, rfl⟩
        have hhl : hf ≤ sl.length := by omega
        have i1 : (sl.length : Int).tdiv 2 = (hf : Int) := by
          rw [Int.tdiv_eq_ediv_of_nonneg (by omega)]; omega
        have i2 : (0 : Int) ≤ (hf : Int) := by omega
        have i3 : (hf : Int) ≤ (sl.length : Int) := by omega
        have i4 : IntKind.i64.wrap (hf : Int) = (hf : Int) := IntWalk.i64_in _ (by omega)
        have htd : sl.take hf ++ sl.drop hf = sl := List.take_append_drop hf sl
        have hw2 := write_two w.heap.size wr.heap.size size m q (sl.take hf) (sl.drop hf) w4.drew HB4.out.size HBC4.out hq k2 (by rw [htd]; have := HH2.out; omega)
        rw [htd, ← extract_take, ← extract_str, ← HSL.out] at hw2
        have HW2 : Hid (Calls Try.prog 5 #[.pointer (some ⟨wr.heap.size, 0, none⟩), .slice (some ⟨w4.heap.size, 0, none⟩) 2 2] (w4.alloc (.cells #[.string (S.extract 0 hf), .string (S.extract hf sl.length)] 9)).drew fun e w' => ∃ v bl q', e = .returned v ∧ w'.ownsRow w.heap.size 9 1 v bl.length (bl.map strV) ∧ Cuts size (q ++ sl) bl q' ∧ IsBuf w' wr.heap.size size q' (m + sl.length) ∧ w4.drew.grownBy w' (some wr.heap.size)) := hw2
        clear hw2 hhf htd
        go_region_with (go_at_call 5; refine HW2.out.mono ?_; rintro e w5 ⟨v3, bl3, q3, rfl, hown3, hcut3, hbuf3, hgr3⟩)
        all_goals
          obtain ⟨rfl, rfl⟩ := Cuts.one HC1.out hcut3
          obtain ⟨a1, cap1, rfl, r1⟩ := own_slice (own_far (own_far HO1'.out (grown_drew w4 (some wr.heap.size)) hlt2) hgr3 hlt2)
          obtain ⟨a2, cap2, rfl, r2⟩ := own_slice (own_far (own_far HO2.out (grown_drew w4 (some wr.heap.size)) hlt2) hgr3 hlt2)
          obtain ⟨a3, cap3, rfl, r3⟩ := own_slice hown3
          have hbg5 : IsBuf w5 g size q1 (m + sl.length) := HBF4.out.of_block (hgr3.block g HBF4.out.lt (by simp; omega))
          have hb5 : Below w.heap.size w w5 := (HB4.out.drew).grown hgr3 HB4.out.size (fun k hk => by cases hk; exact HBE0.out)
          have R1 := Lib.hid r1
          have R2 := Lib.hid r2
          have R3 := Lib.hid r3
          have G5 := Lib.hid hbg5
          have C5 := Lib.hid hbuf3
          have B5 := Lib.hid hb5
          have HQ1 := Lib.hid HC1.out.2.2
          have hbn : bl.length ≤ 1000 := by
            have h1 := flat_many (by omega) HC1.out.2.1
            have h2 := congrArg List.length HC1.out.1
            rw [List.length_append, List.length_append] at h2
            omega
          clear r1 r2 r3 hbg5 hbuf3 hb5 hgr3 hown3 hcut3 HW2 HB4 HBC4 HBF4 HO1' HO2 HC1 i1 i2 i3 i4 hhl
          generalize wr.heap.size = gc at *
          go_wp2_with fail
          go_loopw [113] (fun i W => ∃ k : Nat, k ≤ bl.length ∧ i = .int .i64 (k : Int) ∧ W = w5) (fun i _ => bl.length - (intOf i).toNat)
          case atStart => exact ⟨0, by omega, rfl, rfl⟩
          case round =>
            obtain ⟨k, hk, rfl, rfl⟩ := hrel
            by_cases hkl : k < bl.length
            · obtain ⟨g1, rfl, d1⟩ := R1.out k hkl
              obtain ⟨g2, rfl, d2⟩ := R2.out k hkl
              obtain ⟨g3, rfl, d3⟩ := R3.out k hkl
              have hkl' : (k : Int) < (bl.length : Int) := by omega
              have hk0 : (0 : Int) ≤ (k : Int) := by omega
              obtain ⟨Y, hY⟩ : ∃ Y, strV bl[k] = .string Y := ⟨_, rfl⟩
              rw [hY] at d1 d2 d3
              clear hY
              go_wp2_with fail
              go_roundw
              case rel => exact ⟨k + 1, by omega, rfl, trivial⟩
              case measure =>
                simp [intOf]
                omega
            · have hkl' : ¬ (k : Int) < (bl.length : Int) := by omega
              obtain ⟨Y, hY⟩ : ∃ Y, strV q1 = .string Y := ⟨_, rfl⟩
              rw [hY]
              have KR1 := Lib.hid (Rest_any g size (m + sl.length) q1 wr G5.out (by have := HQ1.out; omega))
              have KR2 := Lib.hid (Rest_any gc size (m + sl.length) q1 wr.drew C5.out (by have := HQ1.out; omega))
              have KL := Lib.hid (len_any g size (m + sl.length) q1 wr.drew.drew G5.out)
              rw [hY] at KR1 KR2
              have HY := Lib.hid hY
              have k6 : IntKind.i64.wrap ((m : Int) + (sl.length : Int)) = (m : Int) + (sl.length : Int) := IntWalk.i64_in _ (by have := HH2.out; omega)
              clear R1 R2 R3 hY
              go_wp2_with fail
              refine KR1.out.mono ?_
              rintro e w6 ⟨rfl, rfl⟩
              go_wp2_with fail
              refine KR2.out.mono ?_
              rintro e w6 ⟨rfl, rfl⟩
              go_wp2_with fail
              refine KL.out.mono ?_
              rintro e w6 ⟨rfl, rfl⟩
              go_wp2_with fail
              go_roundw
              case rel => exact ⟨j + 1, m + sl.length, q1, by omega, congrArg (Value.int .i64) (by omega), HY.out.symm, congrArg (Value.int .i64) (by omega), by omega, HQ1.out, G5.out, B5.out.drew.drew⟩
              case measure =>
                simp [intOf]
                omega
    · have HBE := Lib.hid hbe
      have hlt' : ¬ (j : Int) < (len : Int) := by omega
      clear hbuf hbe
      go_wp2_with (go_at_call 9; refine (HL.out _).mono ?_; rintro e w' ⟨rfl, hb⟩)
      go_ret
      exact ⟨rfl, gr_step HBE.out hb⟩
theorem blockWrites_walk (size : Int) (a : Option Addr) (len cap : Nat) (ss : List ByteArray) (w : World) (_ : (Lit.int .i64 size).wf = true) (ht : IsTexts w a len cap ss) :
    Calls Try.prog 3 #[.int .i64 size, .slice a len cap] w fun e w' => e = .returned (.bool true) ∧ Below w.heap.size w w' := blockWrites_w size a len cap ss w ht
end Go.Proofs.Ytbpmbdaajddjlaa
