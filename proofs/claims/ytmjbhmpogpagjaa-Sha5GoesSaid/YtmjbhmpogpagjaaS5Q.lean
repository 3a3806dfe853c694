/- The law Sha5Goes (layer 18): its walk. -/
import Derived.Test.YtmjbhmpogpagjaaS5P
import Derived.Test.YtmjbhmpogpagjaaInw
namespace Go.Proofs.Ytmjbhmpogpagjaa
set_option maxRecDepth 20000
set_option linter.unusedSimpArgs false
set_option linter.unusedVariables false
open Go.RowKit Go.Sort
section
variable {P : Program} {ops : Array Oper} {w0 : World} {Q : Act → World → Prop} {k : Nat} {A : Act}
/-- The end of the first operations: one block made, and what it holds. -/
theorem inw_end1k {j1 : Nat} {t1 : Tmp} {v1 : Nat → Value} {o1 : Obj} (h1 : dstOf ops j1 = some t1)
    (h : ∀ b1 d os, (grow (redrawn w0 d) os).heap[b1]? = some o1 → Q (A.put (some t1) (v1 b1)) (grow (redrawn w0 d) os)) :
    wpInw P ops w0 Q [] k A [(j1, fun u w' => ∃ b, u = v1 b ∧ w'.heap[b]? = some o1)] [] := fun d os => by
  rintro u1 ⟨b1, rfl, hb⟩ _
  show Q (A.put (dstOf ops j1) (v1 b1)) _
  rw [h1]
  exact h b1 d os hb
end
/-- Of, of texts that were just put side by side. -/
theorem hof_new (ss : List (List UInt8)) (W : World) (hss : ss.length ≤ 1000) (hn : ss.flatten.length ≤ 1000000) (bl : List (List UInt8)) (q : List UInt8) (hc : Cuts 128 (ss.flatten ++ padL ss.flatten) bl q) :
    Calls Try.prog 6 #[.slice (some ⟨W.heap.size, 0, none⟩) ss.length ss.length] (W.alloc (.cells (ss.map strV).toArray 9)) fun e w' => e = .returned (strV (digL (hashL begin8 keys80 bl))) ∧ Below W.heap.size W w' := by
  have hb := (mk_at W (.cells (ss.map strV).toArray 9)).2
  refine (hof_any ss.length _ ss _ (StrsAt.new W ss) hss hn bl q hc).mono ?_
  rintro e w' ⟨rfl, h2⟩
  exact ⟨rfl, hb.trans (h2.mono hb.size)⟩
theorem dig_size (bl : List (List UInt8)) : (digL (hashL begin8 keys80 bl)).length = 64 := by
  rw [digL_len, (hashL_ok begin8 keys80 begin_ok.1 begin_ok.2 bl).1]
theorem Two.keep {a b : World} {h g c d : Nat} {L : List UInt8} (x : IsHash a c d L) (y : Two a b h g) (h1 : c ≠ h) (h2 : c ≠ g) (h3 : d ≠ h) (h4 : d ≠ g) : IsHash b c d L :=
  x.of (y.block c x.lt.1 h1 h2) (y.block d x.lt.2 h3 h4)
theorem hsum_nil' (w : World) : Calls Try.prog 9 #[.pointer none] w fun e w' => e = .returned (.string ⟨#[]⟩) ∧ w = w' := hsum_nil w
theorem cut_two (S : ByteArray) (n : Nat) : [(S.extract 0 n).data.toList, (S.extract n S.size).data.toList].flatten = S.data.toList := by
  simp only [ByteArray.data_extract, Array.toList_extract, List.flatten_cons, List.flatten_nil, List.append_nil, List.extract_eq_take_drop]
  rw [List.drop_zero, Nat.sub_zero]
  have h : (S.data.toList.drop n).take (S.size - n) = S.data.toList.drop n := List.take_of_length_le (by rw [List.length_drop]; exact Nat.le_of_eq (by rw [Array.length_toList]; rfl))
  rw [h, List.take_append_drop]
theorem strV_self (S : ByteArray) : strV S.data.toList = .string S := by
  show Value.string ⟨S.data.toList.toArray⟩ = _
  rw [bytes_self]
theorem IsHash.apart {W : World} {h g b : Nat} {L : List UInt8} {cs : Array Value} (x : IsHash W h g L) (hb : W.heap[b]? = some (.cells cs 9 (0, 0))) : b ≠ h ∧ b ≠ g := by
  obtain ⟨_, bl, q, _, hh, P, _, _, hg⟩ := x
  constructor
  · rintro rfl
    rw [hb] at hh
    simp at hh
  · rintro rfl
    rw [hb] at hg
    simp at hg
set_option linter.unusedSimpArgs false in
set_option maxRecDepth 20000 in
set_option maxHeartbeats 16000000 in
theorem sha5Goes_w (a : Option Addr) (len cap : Nat) (ss : List ByteArray) (w : World) (ht : IsTexts w a len cap ss) :
    Calls Try.prog 4 #[.slice a len cap] w fun e w' => e = .returned (.bool true) ∧ Below w.heap.size w w' := by
  have HL := Lib.hid lives18
  have KWn := Lib.hid hwrite_nil
  have KSn := Lib.hid hsum_nil'
  have KLn := Lib.hid hlen_nil
  have KCn := Lib.hid hcopy_nil
  have HMIX := Lib.hid (show Try.prog.follows .mixedOrders = true by kernel_rfl)
  have hb0 := (mk_at w (.cells #[.string ⟨#[97]⟩] 9)).2
  by_cases h10 : 10 < len
  · have p1 : (10 : Int) < (len : Int) := by omega
    have HB0 := Lib.hid hb0
    clear ht hb0 h10
    go_enter Try.func4, Try.ntmps4
    go_wp2_with fail
    refine (KWn.out _ _).mono ?_
    rintro e w1 ⟨rfl, rfl⟩
    go_wp2_with fail
    refine (KSn.out _).mono ?_
    rintro e w1 ⟨rfl, rfl⟩
    go_wp2_with fail
    refine (KLn.out _).mono ?_
    rintro e w1 ⟨rfl, rfl⟩
    go_wp2_with fail
    refine (KCn.out _).mono ?_
    rintro e w1 ⟨rfl, rfl⟩
    go_wp2_with fail
    refine (HL.out _).mono ?_
    rintro e w1 ⟨rfl, hb⟩
    go_wp2_with fail
    go_ret
    exact ⟨rfl, HB0.out.trans (hb.mono HB0.out.size)⟩
  · have p1 : ¬ (10 : Int) < (len : Int) := by omega
    have HLN := Lib.hid (show len ≤ 10 by omega)
    have HAT := Lib.hid (fun h0 : 0 < len => texts_at ht h0)
    have HB0 := Lib.hid hb0
    clear ht h10 hb0
    go_enter Try.func4, Try.ntmps4
    go_wp2_with fail
    refine (KWn.out _ _).mono ?_
    rintro e w1 ⟨rfl, rfl⟩
    go_wp2_with fail
    refine (KSn.out _).mono ?_
    rintro e w1 ⟨rfl, rfl⟩
    go_wp2_with fail
    refine (KLn.out _).mono ?_
    rintro e w1 ⟨rfl, rfl⟩
    go_wp2_with fail
    refine (KCn.out _).mono ?_
    rintro e w1 ⟨rfl, rfl⟩
    go_wp2_with fail
    clear KWn KSn KLn KCn
    refine (hnew_any _).mono ?_
    rintro e w1 ⟨h, g, rfl, hh1, hg1, hH1, hB1⟩
    have B1 := Lib.hid (HB0.out.trans (hB1.mono HB0.out.size))
    have HG : Hid (w.heap.size ≤ h ∧ w.heap.size ≤ g) := And.intro (Nat.le_trans HB0.out.size hh1) (Nat.le_trans HB0.out.size hg1)
    have H1 := Lib.hid hH1
    clear hH1 hB1 hh1 hg1 HB0
    go_wp2_with fail
    go_loopw [5, 40] (fun x i W => ∃ k : Nat, k ≤ len ∧ i = .int .i64 (k : Int) ∧ x = strV (allT ss k).flatten ∧ (allT ss k).flatten.length ≤ 400 * k ∧ IsHash W h g (allT ss k).flatten ∧ Below w.heap.size w W) (fun _ i _ => len - (intOf i).toNat)
    case atStart => exact ⟨0, by omega, rfl, rfl, by simp [allT], H1.out, B1.out⟩
    case round =>
      clear H1 B1
      obtain ⟨k, hk, rfl, rfl, hle, hH, hbe⟩ := hrel
      by_cases hlt : k < len
      · have p2 : (k : Int) < (len : Int) := by omega
        obtain ⟨b, off, rfl, hb, hc, hm⟩ := HAT.out (by omega)
        have ck : wr.cell? ⟨b, off + k, none⟩ = some (.string (ss.getD k ByteArray.empty)) := (hbe.cell (p := ⟨b, off + k, none⟩) hb).trans (hc k hlt)
        have hcat := cat_next ss k
        have hflat := allT_flat ss k
        have hfl := congrArg List.length hflat
        rw [List.length_append, show (ss.getD k ByteArray.empty).data.toList.length = (ss.getD k ByteArray.empty).size from Array.length_toList] at hfl
        obtain ⟨A, hA⟩ : ∃ A : ByteArray, A = ⟨(allT ss k).flatten.toArray⟩ := ⟨_, rfl⟩
        have hAz : A.size = (allT ss k).flatten.length := by rw [hA]; rfl
        have hAV : strV (allT ss k).flatten = .string A := by rw [hA]; rfl
        rw [hAV]
        rw [← hA] at hcat
        generalize ss.getD k ByteArray.empty = S at *
        have HB := Lib.hid hbe
        have HK := Lib.hid hlt
        have hln := HLN.out
        have wk : IntKind.i64.wrap ((k : Int) + 1) = (k : Int) + 1 := by rw [IntKind.wrap_i64]; omega
        by_cases h4 : 400 < S.size
        · have p4 : (400 : Int) < (S.size : Int) := by omega
          clear hcat hflat hfl hA hAz hAV hle hc hm hk hlt hbe hln hH
          go_wp2_with fail
          refine (HL.out _).mono ?_
          rintro e w1 ⟨rfl, hb1⟩
          have HB1 := Lib.hid (HB.out.trans (hb1.mono HB.out.size))
          clear hb1
          go_wp2_with fail
          go_ret
          exact ⟨rfl, HB1.out⟩
        · have p4 : ¬ (400 : Int) < (S.size : Int) := by omega
          have hS9 : S.size ≤ 400 := by omega
          have hA9 : A.size ≤ 4000 := by omega
          obtain ⟨T, hT⟩ : ∃ T, (allT ss k).flatten = T := ⟨_, rfl⟩
          obtain ⟨T', hT'⟩ : ∃ T', (allT ss (k + 1)).flatten = T' := ⟨_, rfl⟩
          rw [hT] at hle hH hflat hfl hAV hAz
          rw [hT'] at hflat hfl hcat
          have HT' := Lib.hid hT'
          have HFL := Lib.hid (show T'.length ≤ 400 * (k + 1) by omega)
          have HTl := Lib.hid (show T.length ≤ 4000 ∧ T'.length ≤ 4400 by omega)
          have HFT := Lib.hid hflat
          have HCAT := Lib.hid hcat
          have HAV := Lib.hid hAV
          have KC := Lib.hid (hcopy_any h g T wr hH)
          have H0 := Lib.hid hH
          have HWR := Lib.hid hbe.size
          have HGR : Hid (h < wr.heap.size ∧ g < wr.heap.size) := hH.lt
          clear hcat hflat hfl hA hAz hAV hle hc hm hk hlt hbe hln hH hT hT' h4
          go_wp2_with fail
          refine KC.out.mono ?_
          rintro e w1 ⟨c, g', rfl, hc1, hg1, hH1, hB1⟩
          have HCG : Hid (wr.heap.size ≤ c ∧ wr.heap.size ≤ g') := And.intro hc1 hg1
          have KW1 : Hid (Calls Try.prog 8 #[.pointer (some ⟨c, 0, none⟩), .slice (some ⟨w1.heap.size, 0, none⟩) 2 2] (w1.alloc (.cells #[.string ⟨#[120]⟩, .string S] 9)) fun e w' => e = .returned (.tuple #[]) ∧ IsHash w' c g' (T ++ [[120], S.data.toList].flatten) ∧ Two w1 w' c g') := by
            have x := hwrite_new c g' T [[120], S.data.toList] w1 hH1 (by simp) (by have := HTl.out.1; simp; omega)
            rw [show ([[120], S.data.toList] : List (List UInt8)).map strV = [.string ⟨#[120]⟩, .string S] by rw [List.map_cons, List.map_cons, List.map_nil, strV_self]; rfl] at x
            exact x
          have H1 := Lib.hid (H0.out.below hB1)
          have B1 := Lib.hid (HB.out.trans (hB1.mono HB.out.size))
          have SZ1 := Lib.hid hB1.size
          clear hc1 hg1 hH1 hB1 KC H0 HB
          go_wp2_with fail
          refine KW1.out.mono ?_
          rintro e w2 ⟨rfl, hC2, hT2⟩
          have hcg := HCG.out
          have hgr := HGR.out
          have C2 := Lib.hid hC2
          have H2 := Lib.hid (Two.keep H1.out hT2 (by omega) (by omega) (by omega) (by omega))
          have B2 := Lib.hid (Two.below B1.out hT2 B1.out.size (Nat.le_trans HWR.out hcg.1) (Nat.le_trans HWR.out hcg.2))
          have SZ2 := Lib.hid (Nat.le_trans SZ1.out hT2.size)
          clear hC2 hT2 KW1 H1 B1 SZ1 hcg hgr
          have d3 : (S.size : Int).tdiv 3 = ((S.size / 3 : Nat) : Int) := by
            rw [Int.tdiv_eq_ediv_of_nonneg (by omega)]
            rfl
          have d3' : (S.size : Int) / 3 = ((S.size / 3 : Nat) : Int) := rfl
          have hn3 : S.size / 3 ≤ S.size := Nat.div_le_self _ _
          have i2 : (0 : Int) ≤ ((S.size / 3 : Nat) : Int) := by omega
          have i3 : ((S.size / 3 : Nat) : Int) ≤ (S.size : Int) := by omega
          have i4 : IntKind.i64.wrap ((S.size / 3 : Nat) : Int) = ((S.size / 3 : Nat) : Int) := IntWalk.i64_in _ (by omega)
          have HCT := Lib.hid (cut_two S (S.size / 3))
          generalize S.size / 3 = n3 at *
          go_wp2_with fail
          refine wp_region_inw 12 HMIX.out (by decide) (by kernel_rfl) (by kernel_rfl) ?_
          repeat (first
            | (refine inw_skip (by rfl) (by rfl) ?_; simp only [Act.put, List.setIfInBounds_toArray, List.set_cons_zero, List.set_cons_succ])
            | (refine inw_val (v := ?_) (by rfl) (by rfl) (fun d os => ?_) ?_; rotate_left; (focus (go_simp; (try with_reducible rfl); done)); simp only [Act.put, List.setIfInBounds_toArray, List.set_cons_zero, List.set_cons_succ]))
          refine inw_mk (fun b => .slice (some ⟨b, 0, none⟩) 2 2) (.cells #[.string (S.extract 0 n3), .string (S.extract n3 S.size)] 9 (0, 0)) (by rfl) (by rfl) (fun d os => ?_) ?_; (focus (go_simp; done)); simp only [List.nil_append, List.cons_append]

          refine inw_end1k (t1 := 65) (by rfl) (fun b1 d os hb1 => ?_)
          have BW := below_regrown w2 d os
          have h3 := H2.out.below BW
          have c3 := C2.out.below BW
          have b3 := B2.out.trans (BW.mono B2.out.size)
          have z3 := Nat.le_trans SZ2.out BW.size
          generalize grow (redrawn w2 d) os = V at hb1 h3 c3 b3 z3 ⊢
          simp only [Act.put, List.setIfInBounds_toArray, List.set_cons_zero, List.set_cons_succ]
          have ap := h3.apart hb1
          have KW2 : Hid (Calls Try.prog 8 #[.pointer (some ⟨h, 0, none⟩), .slice (some ⟨b1, 0, none⟩) 2 2] V fun e w' => e = .returned (.tuple #[]) ∧ IsHash w' h g (T ++ [(S.extract 0 n3).data.toList, (S.extract n3 S.size).data.toList].flatten) ∧ Two V w' h g) :=
            hwrite_any h g 2 (some ⟨b1, 0, none⟩) T [(S.extract 0 n3).data.toList, (S.extract n3 S.size).data.toList] V h3 (.inr ⟨b1, 0, rfl, ap.1, ap.2, fun i hi => by
              rw [Nat.zero_add]
              match i, hi with
              | 0, _ => rw [show ([(S.extract 0 n3).data.toList, (S.extract n3 S.size).data.toList] : List (List UInt8))[0] = (S.extract 0 n3).data.toList from rfl, strV_self]; exact (arr_get (L := [.string (S.extract 0 n3), .string (S.extract n3 S.size)]) hb1 rfl).1
              | 1, _ => rw [show ([(S.extract 0 n3).data.toList, (S.extract n3 S.size).data.toList] : List (List UInt8))[1] = (S.extract n3 S.size).data.toList from rfl, strV_self]; exact (arr_get (L := [.string (S.extract 0 n3), .string (S.extract n3 S.size)]) hb1 rfl).1⟩) (by simp) (by rw [HCT.out, show S.data.toList.length = S.size from Array.length_toList]; have := HTl.out.1; omega)
          have C3 := Lib.hid c3
          have B3 := Lib.hid b3
          have Z3 := Lib.hid z3
          clear BW h3 c3 b3 z3 H2 C2 B2 SZ2 ap hb1 d3 d3' hn3 i2 i3 i4
          change wpAny _ _ _ _ 1 _ _ _
          refine any_one (i := 12) (by kernel_rfl) rfl (fun K hK => ?_)
          go_simp
          refine KW2.out.mono ?_
          rintro e w3 ⟨rfl, hH3, hT3⟩
          rw [HCT.out, ← HFT.out] at hH3
          have hcg := HCG.out
          have hgr := HGR.out
          have C4 := Lib.hid (Two.keep C3.out hT3 (by omega) (by omega) (by omega) (by omega))
          have H4 := Lib.hid hH3
          have hwg := HG.out
          have B4 := Lib.hid (Two.below B3.out hT3 B3.out.size hwg.1 hwg.2)
          clear hH3 hT3 hcg hgr hwg KW2 C3 B3
          refine hK _ _ ?_
          clear hK K
          refine wpAny_done (by kernel_rfl) ?_ _
          have KLn := Lib.hid (hlen_any h g T' w3 H4.out)
          obtain ⟨bl1, q1, hc1⟩ := cuts_exist _ (T' ++ padL T') (Nat.le_refl _)
          obtain ⟨bl2, q2, hc2⟩ := cuts_exist _ ((T ++ 120 :: S.data.toList) ++ padL (T ++ 120 :: S.data.toList)) (Nat.le_refl _)
          have htl := HTl.out
          have hSl : S.data.toList.length = S.size := Array.length_toList
          have KS1 := Lib.hid (fun (W : World) (x : IsHash W h g T') => hsum_any h g T' W x (by omega) bl1 q1 hc1)
          have KO1 := Lib.hid (fun W : World => hof_new [T'] W (by simp) (by simp; omega) bl1 q1 (by simpa using hc1))
          have KS2 := Lib.hid (fun (W : World) (x : IsHash W c g' (T ++ 120 :: S.data.toList)) => hsum_any c g' (T ++ 120 :: S.data.toList) W x (by simp; omega) bl2 q2 hc2)
          have KO2 := Lib.hid (fun W : World => hof_new [T, 120 :: S.data.toList] W (by simp) (by simp; omega) bl2 q2 (by simpa using hc2))
          have C4' : Hid (IsHash w3 c g' (T ++ 120 :: S.data.toList)) := by
            have x := C4.out
            rw [show T ++ [[120], S.data.toList].flatten = T ++ 120 :: S.data.toList by simp] at x
            exact x
          obtain ⟨D1, hD1⟩ : ∃ D : ByteArray, strV (digL (hashL begin8 keys80 bl1)) = .string D := ⟨_, rfl⟩
          obtain ⟨D2, hD2⟩ : ∃ D : ByteArray, strV (digL (hashL begin8 keys80 bl2)) = .string D := ⟨_, rfl⟩
          have hDz : (D1.size : Int) = 64 := by
            have x := dig_size bl1
            rw [show D1 = ⟨(digL (hashL begin8 keys80 bl1)).toArray⟩ from (Value.string.inj hD1).symm]
            show ((digL (hashL begin8 keys80 bl1)).length : Int) = 64
            omega
          rw [hD1] at KS1 KO1
          rw [hD2] at KS2 KO2
          rw [show ([T'] : List (List UInt8)).map strV = [strV T'] from rfl, ← HCAT.out] at KO1
          have hx : strV (120 :: S.data.toList) = .string ((⟨#[120]⟩ : ByteArray) ++ S) := by
            have x := cat_text [120] S.data.toList
            rw [bytes_self] at x
            exact x.symm
          rw [show ([T, 120 :: S.data.toList] : List (List UInt8)).map strV = [strV T, strV (120 :: S.data.toList)] from rfl, HAV.out, hx] at KO2
          have hAz : T'.length = (A ++ S).size := by
            have x := HCAT.out
            unfold strV at x
            rw [Value.string.inj x]
            rfl
          rw [hAz] at KLn
          clear C4 hc1 hc2 hD1 hD2 hx hAz htl hSl
          go_wp2_with fail
          refine KLn.out.mono ?_
          rintro e w4 ⟨rfl, rfl⟩
          go_wp2_with fail
          refine (KS1.out _ H4.out).mono ?_
          rintro e w5 ⟨rfl, hb5⟩
          have H5 := Lib.hid (H4.out.below hb5)
          have C5 := Lib.hid (C4'.out.below hb5)
          have B5 := Lib.hid (B4.out.trans (hb5.mono B4.out.size))
          clear hb5 H4 C4' B4 KLn
          go_wp2_with fail
          refine (KO1.out _).mono ?_
          rintro e w6 ⟨rfl, hb6⟩
          have H6 := Lib.hid (H5.out.below hb6)
          have C6 := Lib.hid (C5.out.below hb6)
          have B6 := Lib.hid (B5.out.trans (hb6.mono B5.out.size))
          clear hb6 H5 C5 B5
          go_wp2_with fail
          refine (KS2.out _ C6.out).mono ?_
          rintro e w7 ⟨rfl, hb7⟩
          have H7 := Lib.hid (H6.out.below hb7)
          have B7 := Lib.hid (B6.out.trans (hb7.mono B6.out.size))
          clear hb7 H6 C6 B6
          go_wp2_with fail
          refine (KO2.out _).mono ?_
          rintro e w8 ⟨rfl, hb8⟩
          have H8 := Lib.hid (H7.out.below hb8)
          have B8 := Lib.hid (B7.out.trans (hb8.mono B7.out.size))
          clear hb8 H7 B7
          go_wp2_with fail
          refine (KS1.out _ H8.out).mono ?_
          rintro e w9 ⟨rfl, hb9⟩
          have H9 := Lib.hid (H8.out.below hb9)
          have B9 := Lib.hid (B8.out.trans (hb9.mono B8.out.size))
          clear hb9 H8 B8 KS1 KS2 KO1 KO2
          go_wp2_with fail
          go_roundw
          case rel => exact ⟨k + 1, HK.out, rfl, by rw [HT'.out]; exact HCAT.out, by rw [HT'.out]; exact HFL.out, by rw [HT'.out]; exact H9.out, B9.out⟩
          case measure =>
            have := HK.out
            simp [intOf]
            omega
      · have p2 : ¬ (k : Int) < (len : Int) := by omega
        obtain rfl : k = len := by omega
        obtain ⟨T, hT⟩ : ∃ T, (allT ss k).flatten = T := ⟨_, rfl⟩
        rw [hT] at hle hH ⊢
        obtain ⟨bl1, q1, hc1⟩ := cuts_exist _ (T ++ padL T) (Nat.le_refl _)
        have hln := HLN.out
        have KS1 := Lib.hid (hsum_any h g T wr hH (by omega) bl1 q1 hc1)
        have KO1 := Lib.hid (fun W : World => hof_new [T] W (by simp) (by simp; omega) bl1 q1 (by simpa using hc1))
        obtain ⟨A, hA⟩ : ∃ A : ByteArray, strV T = .string A := ⟨_, rfl⟩
        obtain ⟨D1, hD1⟩ : ∃ D : ByteArray, strV (digL (hashL begin8 keys80 bl1)) = .string D := ⟨_, rfl⟩
        rw [hD1] at KS1 KO1
        rw [show ([T] : List (List UInt8)).map strV = [strV T] from rfl, hA] at KO1
        rw [hA]
        have HB := Lib.hid hbe
        clear hT hle hH hbe hln hc1 hA hD1 hk hlt
        go_wp2_with fail
        refine KS1.out.mono ?_
        rintro e w5 ⟨rfl, hb5⟩
        have B5 := Lib.hid (HB.out.trans (hb5.mono HB.out.size))
        clear hb5 HB KS1
        go_wp2_with fail
        refine (KO1.out _).mono ?_
        rintro e w6 ⟨rfl, hb6⟩
        have B6 := Lib.hid (B5.out.trans (hb6.mono B5.out.size))
        clear hb6 B5 KO1
        go_wp2_with fail
        refine (HL.out _).mono ?_
        rintro e w7 ⟨rfl, hb7⟩
        have B7 := Lib.hid (B6.out.trans (hb7.mono B6.out.size))
        clear hb7 B6
        go_wp2_with fail
        go_ret
        exact ⟨rfl, B7.out⟩
theorem sha5Goes_walk (a : Option Addr) (len cap : Nat) (ss : List ByteArray) (w : World) (ht : IsTexts w a len cap ss) :
    Calls Try.prog 4 #[.slice a len cap] w fun e w' => e = .returned (.bool true) ∧ Below w.heap.size w w' := sha5Goes_w a len cap ss w ht
end Go.Proofs.Ytmjbhmpogpagjaa
