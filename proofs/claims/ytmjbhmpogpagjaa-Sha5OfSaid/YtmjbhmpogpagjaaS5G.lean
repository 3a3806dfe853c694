/- The reference's Of and Hash (layer 18): what they answer. -/
import Derived.Test.YtmjbhmpogpagjaaS5E
import Derived.Test.YtmjbhmpogpagjaaS5F
import Derived.Test.YtmjbhmpogpagjaaBlkTs
import Derived.Test.YtmjbhmpogpagjaaBlkE
import Derived.Test.YtmjbhmpogpagjaaPutp
namespace Go.Proofs.Ytmjbhmpogpagjaa
set_option maxRecDepth 20000
set_option linter.unusedSimpArgs false
set_option linter.unusedVariables false
open Go.RowKit
/-- What blocks come to, one behind the other. -/
def hashL (h k : List Nat) (bl : List (List UInt8)) : List Nat := bl.foldl (fun h b => stepN h k (blockM ⟨b.toArray⟩ 16)) h
def digL (h : List Nat) : List UInt8 := h.flatMap fun x : Nat => putR (x : Int) 8
theorem hashL_snoc (h k : List Nat) (bl : List (List UInt8)) (b : List UInt8) : hashL h k (bl ++ [b]) = stepN (hashL h k bl) k (blockM ⟨b.toArray⟩ 16) := by simp [hashL]
theorem digL_snoc (h : List Nat) (x : Nat) : digL (h ++ [x]) = digL h ++ putR (x : Int) 8 := by simp [digL]
theorem digL_len : ∀ h : List Nat, (digL h).length = 8 * h.length
  | [] => rfl
  | x :: h => by
    show (putR (x : Int) 8 ++ digL h).length = _
    rw [List.length_append, putR_length, digL_len h, List.length_cons]
    omega
theorem stepN_len (h k m : List Nat) : (stepN h k m).length = 8 := by simp [stepN]
theorem stepN_lt (h k m : List Nat) : ∀ x ∈ stepN h k m, x < M64 := fun x hx => by
  unfold stepN at hx
  obtain ⟨i, _, rfl⟩ := List.mem_map.1 hx
  exact Nat.mod_lt _ (by decide)
theorem hashL_ok (h k : List Nat) (lh : h.length = 8) (bh : ∀ x ∈ h, x < M64) (bl : List (List UInt8)) : (hashL h k bl).length = 8 ∧ ∀ x ∈ hashL h k bl, x < M64 := by
  rcases bl.eq_nil_or_concat with rfl | ⟨t, b, rfl⟩
  · exact ⟨lh, bh⟩
  · rw [List.concat_eq_append, hashL_snoc]
    exact ⟨stepN_len _ _ _, stepN_lt _ _ _⟩
theorem cat_bytes (a b : List UInt8) : (⟨a.toArray⟩ : ByteArray) ++ ⟨b.toArray⟩ = ⟨(a ++ b).toArray⟩ := by
  apply ByteArray.ext
  simp
theorem cat_text (a b : List UInt8) : Value.string ((⟨a.toArray⟩ : ByteArray) ++ ⟨b.toArray⟩) = strV (a ++ b) := by rw [cat_bytes]; rfl
theorem bytes_self (S : ByteArray) : (⟨S.data.toList.toArray⟩ : ByteArray) = S := by
  apply ByteArray.ext
  simp
theorem own_texts {w : World} {base n : Nat} {v : Value} {l : List (List UInt8)} (h : w.ownsRow base 9 1 v n (l.map strV)) (h0 : 0 < n) (hn : l.length = n) :
    ∃ g cap, v = .slice (some ⟨g, 0, none⟩) n cap ∧ base ≤ g ∧ g < w.heap.size ∧ ∀ i, i < n → w.cell? ⟨g, i, none⟩ = some (strV (l.getD i [])) := by
  obtain ⟨hl, ⟨_, h1⟩ | ⟨g, cap, cur, rfl, h1, h2, h3, h4, h5, h6⟩⟩ := h
  · omega
  · refine ⟨g, cap, rfl, h1, ?_, fun i hi => ?_⟩
    · apply Nat.lt_of_not_le
      intro hle
      rw [Array.getElem?_eq_none hle] at h2
      simp at h2
    · have hx : (cur.toList.take (n * 1))[i]? = (l.map strV)[i]? := congrArg (fun l : List Value => l[i]?) h6
      have hil : i < l.length := by omega
      rw [List.getElem?_take, if_pos (by omega)] at hx
      have hc : w.cell? ⟨g, i, none⟩ = cur.toList[i]? := by simp [World.cell?, h2]
      rw [hc, hx]
      simp [hil]
theorem own_none {w : World} {base : Nat} {v : Value} {l : List (List UInt8)} (h : w.ownsRow base 9 1 v 0 (l.map strV)) : ∃ a cap, v = .slice a 0 cap := by
  obtain ⟨hl, ⟨rfl, h1⟩ | ⟨g, cap, cur, rfl, h1⟩⟩ := h
  · exact ⟨none, 0, rfl⟩
  · exact ⟨_, _, rfl⟩
theorem take_more {α : Type} (l : List α) (d : α) (k : Nat) (h : k < l.length) : l.take (k + 1) = l.take k ++ [l.getD k d] := by
  rw [List.take_succ_eq_append_getElem h, List.getD_eq_getElem?_getD, List.getElem?_eq_getElem h]
  rfl
theorem rput_at (x : Nat) (w : World) (hx : x < M64) : Calls Try.prog 32 #[.int .u64 (x : Int), .int .i64 8] w fun e w' => e = .returned (strV (putR (x : Int) 8)) ∧ Below w.heap.size w w' :=
  rput_any x 8 w (by omega) (by unfold M64 at hx; omega) (by omega)
theorem padN_le (n : Nat) : padN n 128 16 ≤ 400 := by
  unfold padN
  omega
set_option maxRecDepth 20000 in
set_option maxHeartbeats 8000000 in
theorem rof18_any (S : ByteArray) (hS : S.size ≤ 4000) (gh ch gk ck : Nat) (h k : List Nat) (w : World) (lh : h.length = 8) (lk : k.length = 80) (bh : ∀ x ∈ h, x < M64) (bk : ∀ x ∈ k, x < M64) (wh : IsW w gh h) (wk : IsW w gk k) (hch : 8 ≤ ch) (hck : 80 ≤ ck) :
    Calls Try.prog 14 #[.string S, .slice (some ⟨gh, 0, none⟩) 8 ch, .slice (some ⟨gk, 0, none⟩) 80 ck] w fun e w' => ∃ bl q, Cuts 128 (S.data.toList ++ (padS S.size 128 16).data.toList) bl q ∧ e = .returned (strV (digL (hashL h k bl))) ∧ Below w.heap.size w w' := by
  have hs9 : (S.size : Int) ≤ 4000 := by omega
  have KP := Lib.hid (fun w => rpad_in S.size 128 16 w (by omega) (by omega) (by omega) (by omega) (by omega))
  have hlen : (S.data.toList ++ (padS S.size 128 16).data.toList).length ≤ 10000 := by
    have h1 := padN_le S.size
    have h2 : (padS S.size 128 16).data.toList.length = padN S.size 128 16 := by unfold padS; simp
    rw [List.length_append, h2]
    have h3 : S.data.toList.length = S.size := by simp
    omega
  have KC := Lib.hid (fun w => cut_any 128 _ w (by omega) (by omega) hlen)
  have e1 : strV (S.data.toList ++ (padS S.size 128 16).data.toList) = .string (S ++ padS S.size 128 16) := by
    rw [← cat_text, bytes_self, bytes_self]
  rw [e1] at KC
  obtain ⟨T, hT⟩ : ∃ T, S.data.toList ++ (padS S.size 128 16).data.toList = T := ⟨_, rfl⟩
  rw [hT] at KC hlen ⊢
  obtain ⟨PS, hPS⟩ : ∃ PS, padS S.size 128 16 = PS := ⟨_, rfl⟩
  rw [hPS] at KP KC
  have hpz : PS.size ≤ 400 := by
    rw [← hPS, show (padS S.size 128 16).size = padN S.size 128 16 by show (padS S.size 128 16).data.size = _; unfold padS; simp]
    exact padN_le _
  have hpi : (PS.size : Int) ≤ 400 := by omega
  have HH := Lib.hid wh
  have HK := Lib.hid wk
  have HOK := Lib.hid (hashL_ok h k lh bh)
  have KST := Lib.hid (fun (s : ByteArray) (hs : s.size = 128) (g c : Nat) (H : List Nat) (W : World) (lH : H.length = 8) (bH : ∀ x ∈ H, x < M64) (wH : IsW W g H) (wK : IsW W gk k) (hc : 8 ≤ c) => step_any s hs g c gk ck H k W lH lk bH bk wH wK hc hck)
  clear hT hPS e1 wh wk lh lk bh bk hck
  go_enter Try.func14, Try.ntmps14
  go_wp2_with fail
  refine (KP.out _).mono ?_
  rintro e w1 ⟨rfl, hb1⟩
  go_wp2_with fail
  refine (KC.out _).mono ?_
  rintro e w2 ⟨v, bl, q, rfl, hown, hcut, hb2⟩
  have HC := Lib.hid hcut
  have HB2 := Lib.hid (hb1.trans (hb2.mono hb1.size))
  have H2 := Lib.hid ((HH.out.below hb1).below hb2)
  have K2 := Lib.hid ((HK.out.below hb1).below hb2)
  have hbl : bl.length ≤ 10000 := by
    have h1 := congrArg List.length hcut.1
    have h2 := flat_many (by omega) hcut.2.1
    rw [List.length_append] at h1
    omega
  have hbi : (bl.length : Int) ≤ 10000 := by omega
  have HOW := Lib.hid hown
  obtain ⟨va, vc, rfl⟩ : ∃ a c, v = .slice a bl.length c := by
    by_cases h0 : bl.length = 0
    · rw [h0] at hown ⊢
      exact own_none hown
    · obtain ⟨g, c, h1, _⟩ := own_texts hown (by omega) rfl
      exact ⟨_, c, h1⟩
  clear hcut hb1 hb2 HH HK hown hlen KP KC
  go_wp2_with fail
  go_loopw [1, 9] (fun v i wr => ∃ t : Nat, t ≤ bl.length ∧ i = .int .i64 (t : Int) ∧ (∃ g c, v = .slice (some ⟨g, 0, none⟩) 8 c ∧ 8 ≤ c ∧ IsW wr g (hashL h k (bl.take t))) ∧ Below w2.heap.size w2 wr) (fun _ i _ => bl.length - (Go.RowKit.intOf i).toNat)
  case atStart => exact ⟨0, by omega, rfl, ⟨gh, ch, rfl, hch, H2.out⟩, Below.refl _ _⟩
  case round =>
    obtain ⟨t, ht, rfl, ⟨g, c, rfl, hc, hw⟩, hbe⟩ := hrel
    by_cases hlt : t < bl.length
    · have p1 : (t : Int) < (bl.length : Int) := by omega
      have HN := Lib.hid (take_more bl [] t hlt)
      obtain ⟨g0, c0, hv, _, hg0, hcell⟩ := own_texts HOW.out (by omega) rfl
      cases hv
      have m0 : wr.cell? ⟨g0, t, none⟩ = some (strV (bl.getD t [])) := (hbe.cell (p := ⟨g0, t, none⟩) hg0).trans (hcell t hlt)
      have hb64 : (bl.getD t []).length = 128 := by
        rw [List.getD_eq_getElem?_getD, List.getElem?_eq_getElem hlt]
        exact HC.out.2.1 _ (List.getElem_mem hlt)
      obtain ⟨b, hb⟩ : ∃ b, bl.getD t [] = b := ⟨_, rfl⟩
      rw [hb] at m0 hb64 HN
      have hok := HOK.out (bl.take t)
      have KS := Lib.hid (KST.out ⟨b.toArray⟩ (by show b.toArray.size = 128; simpa using hb64) g c (hashL h k (bl.take t)) wr hok.1 hok.2 hw (K2.out.below hbe) hc)
      rw [← hashL_snoc, ← HN.out] at KS
      have HBE := Lib.hid hbe
      have sz := hbe.size
      unfold strV at m0
      clear hcell hb hb64 hok hw hbe HN
      go_wp2_with fail
      refine KS.out.mono ?_
      rintro e w3 ⟨v3, rfl, hown3, hb3⟩
      obtain ⟨g3, c3, rfl, _, hc3, hw3⟩ := own_isW hown3 (by omega) (HOK.out (bl.take (t + 1))).1
      have HW3 := Lib.hid hw3
      have HB3 := Lib.hid (HBE.out.trans (hb3.mono HBE.out.size))
      clear hown3 hb3 hw3 m0 KS HBE
      go_wp2_with fail
      go_roundw
      case rel => exact ⟨t + 1, by omega, congrArg (Value.int .i64) (by omega), ⟨g3, c3, rfl, hc3, HW3.out⟩, HB3.out⟩
      case measure =>
        simp [Go.RowKit.intOf]
        omega
    · obtain rfl : t = bl.length := by omega
      have p1 : ¬ (bl.length : Int) < (bl.length : Int) := by omega
      have hall : bl.take bl.length = bl := List.take_length
      rw [hall] at hw
      have hok := HOK.out bl
      have hk := HC.out
      have HBE := Lib.hid (HB2.out.trans (hbe.mono HB2.out.size))
      have HE : Hid (∃ bl' q', Cuts 128 T bl' q' ∧ digL (hashL h k bl) = digL (hashL h k bl')) := ⟨bl, q, hk, rfl⟩
      have HW := Lib.hid hw
      obtain ⟨H, hH⟩ : ∃ H, hashL h k bl = H := ⟨_, rfl⟩
      rw [hH] at HW HE hok
      have HOK2 := Lib.hid hok
      clear hall hw hok hk hbe hH HB2 H2 K2 HOW HC KST HOK
      go_wp2_with fail
      go_loopw [10, 11] (fun o i wq => ∃ t : Nat, t ≤ 8 ∧ i = .int .i64 (t : Int) ∧ o = strV (digL (H.take t)) ∧ Below wr.heap.size wr wq) (fun _ i _ => 8 - (Go.RowKit.intOf i).toNat)
      case atStart => exact ⟨0, by omega, rfl, rfl, Below.refl _ _⟩
      case round =>
        obtain ⟨t, ht, rfl, rfl, hbe⟩ := hrel
        by_cases hlt : t < 8
        · have p2 : (t : Int) < 8 := by omega
          have m0 := (HW.out.below hbe).2 t (by rw [HOK2.out.1]; exact hlt)
          have hx : H.getD t 0 < M64 := by
            have hl : t < H.length := by rw [HOK2.out.1]; exact hlt
            rw [List.getD_eq_getElem?_getD, List.getElem?_eq_getElem hl]
            exact HOK2.out.2 _ (List.getElem_mem hl)
          have HN := Lib.hid (take_more H 0 t (by rw [HOK2.out.1]; exact hlt))
          obtain ⟨x, hxx⟩ : ∃ x, H.getD t 0 = x := ⟨_, rfl⟩
          rw [hxx] at m0 hx HN
          have KPu := Lib.hid (fun w => rput_at x w hx)
          have HBQ := Lib.hid hbe
          obtain ⟨D, hD⟩ : ∃ D, digL (H.take t) = D := ⟨_, rfl⟩
          have HD : Hid (digL (H.take (t + 1)) = D ++ putR (x : Int) 8) := by show _ = _; rw [HN.out, digL_snoc, hD]
          have hDl : D.length ≤ 64 := by rw [← hD, digL_len, List.length_take]; omega
          have hDi : (D.length : Int) ≤ 64 := by omega
          rw [hD]
          obtain ⟨R, hR⟩ : ∃ R, putR (x : Int) 8 = R := ⟨_, rfl⟩
          rw [hR] at HD KPu
          have hRl : R.length = 8 := by rw [← hR, putR_length]
          have hRi : (R.length : Int) = 8 := by omega
          unfold strV at KPu ⊢
          clear hbe hx hxx hD hR HN
          go_wp2_with fail
          refine (KPu.out _).mono ?_
          rintro e w5 ⟨rfl, hb5⟩
          have HB5 := Lib.hid (HBQ.out.trans (hb5.mono HBQ.out.size))
          clear hb5 m0 KPu HBQ
          go_wp2_with fail
          go_roundw
          case rel => exact ⟨t + 1, by omega, congrArg (Value.int .i64) (by omega), by rw [HD.out]; exact cat_text D R, HB5.out⟩
          case measure =>
            simp [Go.RowKit.intOf]
            omega
        · obtain rfl : t = 8 := by omega
          have p2 : ¬ (8 : Int) < 8 := by omega
          have HT8 : Hid (H.take 8 = H) := List.take_of_length_le (by rw [HOK2.out.1]; exact Nat.le_refl _)
          have HB6 := Lib.hid (HBE.out.trans (hbe.mono HBE.out.size))
          clear hbe HBE HW
          go_wp2_with fail
          go_ret
          obtain ⟨bl', q', h1, h2⟩ := HE.out
          exact ⟨bl', ⟨q', h1⟩, by rw [HT8.out, h2]; rfl, HB6.out⟩
theorem keys_ok : keys80.length = 80 ∧ ∀ x ∈ keys80, x < M64 := by decide +kernel
theorem begin_ok : begin8.length = 8 ∧ ∀ x ∈ begin8, x < M64 := by decide +kernel
set_option maxHeartbeats 1000000 in
theorem rhash18_any (S : ByteArray) (hS : S.size ≤ 4000) (w : World) :
    Calls Try.prog 7 #[.string S] w fun e w' => ∃ bl q, Cuts 128 (S.data.toList ++ (padS S.size 128 16).data.toList) bl q ∧ e = .returned (strV (digL (hashL begin8 keys80 bl))) ∧ Below w.heap.size w w' := by
  go_enter Try.func7, Try.ntmps7
  go_wp2_with fail
  refine (rbegin_any _).mono ?_
  rintro e w1 ⟨v1, rfl, hown1, hb1⟩
  obtain ⟨g1, c1, rfl, _, hc1, hw1⟩ := own_isW hown1 (by omega) begin_ok.1
  clear hown1
  go_wp2_with fail
  refine (rkeys_any _).mono ?_
  rintro e w2 ⟨v2, rfl, hown2, hb2⟩
  obtain ⟨g2, c2, rfl, _, hc2, hw2⟩ := own_isW hown2 (by omega) keys_ok.1
  have KO := Lib.hid (rof18_any S hS g1 c1 g2 c2 begin8 keys80 w2 begin_ok.1 keys_ok.1 begin_ok.2 keys_ok.2 (hw1.below hb2) hw2 hc1 hc2)
  have HB := Lib.hid (hb1.trans (hb2.mono hb1.size))
  clear hown2 hw1 hw2 hb1 hb2
  go_wp2_with fail
  refine KO.out.mono ?_
  rintro e w3 ⟨bl, q, hcut, rfl, hb3⟩
  have HC := Lib.hid hcut
  have HB3 := Lib.hid (HB.out.trans (hb3.mono HB.out.size))
  clear hcut hb3 KO HB
  go_wp2_with fail
  go_ret
  exact ⟨bl, q, HC.out, rfl, HB3.out⟩
end Go.Proofs.Ytmjbhmpogpagjaa
