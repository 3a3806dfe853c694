/- esc (layer 4): the reference's one and Quote. -/
import Derived.Test.YtcadklhjhjbhaaaDoorEscQ
import Derived.Test.YtcadklhjhjbhaaaDoorUtfL
import Derived.Test.YtcadklhjhjbhaaaDoorRefx
namespace Go.Proofs.YtcadklhjhjbhaaaDoor
set_option maxRecDepth 20000
set_option linter.unusedSimpArgs false
set_option linter.unusedVariables false
open Go.RowKit Go.Lib Go.Shelf
attribute [local go_sem] Oper.semAt_some
theorem hexL_low (n : Nat) (h : n < 32) : hexL [0, UInt8.ofNat n] = [48, 48, hexC (n / 16), hexC (n % 16)] :=
  match n, h with
  | 0, _ => rfl
  | 1, _ => rfl
  | 2, _ => rfl
  | 3, _ => rfl
  | 4, _ => rfl
  | 5, _ => rfl
  | 6, _ => rfl
  | 7, _ => rfl
  | 8, _ => rfl
  | 9, _ => rfl
  | 10, _ => rfl
  | 11, _ => rfl
  | 12, _ => rfl
  | 13, _ => rfl
  | 14, _ => rfl
  | 15, _ => rfl
  | 16, _ => rfl
  | 17, _ => rfl
  | 18, _ => rfl
  | 19, _ => rfl
  | 20, _ => rfl
  | 21, _ => rfl
  | 22, _ => rfl
  | 23, _ => rfl
  | 24, _ => rfl
  | 25, _ => rfl
  | 26, _ => rfl
  | 27, _ => rfl
  | 28, _ => rfl
  | 29, _ => rfl
  | 30, _ => rfl
  | 31, _ => rfl
  | k + 32, h => absurd h (by omega)
theorem cv64_8 (n : Nat) (h : n < 32) (W : World) : (convert 2 5 (.int .i64 (n : Int))).run Tryd.prog W = .ok (.int .u8 ((UInt8.ofNat n).toNat : Int)) W := by
  have e : IntKind.u8.wrap (n : Int) = (n : Int) := IntWalk.u8_in _ (by omega)
  have e2 : (UInt8.ofNat n).toNat = n := by rw [UInt8.toNat_ofNat']; omega
  rw [e2]
  go_simp
set_option maxRecDepth 100000 in
set_option maxHeartbeats 4000000 in
theorem rone_any (n : Nat) (hn : isCp n) (w : World) :
    Calls Tryd.prog 28 #[.int .i64 (n : Int)] w fun e w' => e = .returned (.string ⟨(oneV n).toArray⟩) ∧ Below w.heap.size w w' := by
  have KS := Lib.hid (fun w => rsmall_any n hn.1 w)
  have hsm : smallN n = (letV n).getD 0 := rfl
  cases hl : letV n with
  | some c =>
    have hc := (let_lo hl).2
    have ho : oneV n = [92, UInt8.ofNat c] := by unfold oneV; rw [hl]
    rw [hl] at hsm
    rw [show smallN n = c from hsm] at KS
    have hc0 : ((c : Int) == 0) = false := by
      have : c ≠ 0 := by
        rintro rfl
        unfold letV at hl
        repeat' split at hl
        all_goals cases hl
      simp; omega
    have hc1 : ((c : Int) != 0) = true := by simp [bne, hc0]
    have kt : (convert 51 9 (.slice (some ⟨w.heap.size, 0, none⟩) 2 2)).run Tryd.prog (w.alloc (.cells #[.int .u8 92, .int .u8 (c : Int)] 5)) = .ok (.string ⟨#[92, UInt8.ofNat c]⟩) (w.alloc (.cells #[.int .u8 92, .int .u8 (c : Int)] 5)) := by
      refine bytes_text2 92 (UInt8.ofNat c) _ _ ?_
      have e2 : (UInt8.ofNat c).toNat = c := by rw [UInt8.toNat_ofNat']; omega
      rw [e2]
      exact World.alloc_heap_new w _
    rw [ho]
    clear hsm hl ho hc
    go_enter Tryd.func28, Tryd.ntmps28
    go_wp2_with fail
    refine (KS.out w).mono ?_
    rintro e w1 ⟨rfl, rfl⟩
    go_wp2_with fail
    refine (KS.out _).mono ?_
    rintro e w2 ⟨rfl, rfl⟩
    go_wp2_with fail
    go_ret
    exact ⟨rfl, (Below.refl _ _).alloc (Nat.le_refl _) _⟩
  | none =>
    rw [hl] at hsm
    rw [show smallN n = 0 from hsm] at KS
    by_cases h32 : n < 32
    · have ho : oneV n = [92, 117, 48, 48, hexC (n / 16), hexC (n % 16)] := by unfold oneV; rw [hl]; simp only; rw [if_pos h32]
      have p32 : (n : Int) < 32 := by omega
      have hm : Tryd.prog.follows .mixedOrders = true := by kernel_rfl
      have KH := fun w => rhex_any ⟨#[0, UInt8.ofNat n]⟩ w (by show 2 ≤ _; decide)
      rw [show hexL (⟨#[0, UInt8.ofNat n]⟩ : ByteArray).data.toList = [48, 48, hexC (n / 16), hexC (n % 16)] from hexL_low n h32] at KH
      have HKH := Lib.hid KH
      clear KH hsm hl
      go_enter Tryd.func28, Tryd.ntmps28
      go_wp2_with fail
      refine (KS.out w).mono ?_
      rintro e w1 ⟨rfl, rfl⟩
      go_upto_region 4 with fail
      refine wp_region_inw 9 hm (by decide) (by kernel_rfl) (by kernel_rfl) ?_
      refine inw_slice (n := 2) (L := #[.int .u8 92, .int .u8 117]) (T := 5) (fun W => run_slice_of rfl (by simp [Act.eval]) (bs_u82 _ _ W)) rfl rfl ?_; simp only [List.nil_append, List.cons_append]
      refine inw_readS 0 12 (v := .string ⟨#[92, 117]⟩) rfl rfl (fun _ => rfl) (fun b W h => run_cvE rfl rfl (bytes_text2 92 117 b W h)) ?_; simp only [nm0, nm1, nm2, nm3]
      refine inw_pure (v := .int .i64 (n : Int)) (fun _ => rfl) rfl rfl ?_; simp only [nm0, nm1, nm2, nm3]
      refine inw_pure (v := .int .u8 ((UInt8.ofNat n).toNat : Int)) (fun W => run_cvE rfl rfl (cv64_8 n h32 W)) rfl rfl ?_; simp only [nm0, nm1, nm2, nm3]
      refine inw_slice (n := 2) (L := #[.int .u8 0, .int .u8 ((UInt8.ofNat n).toNat : Int)]) (T := 5) (fun W => run_slice_of rfl (by simp [Act.eval]) (bs_u82 _ _ W)) rfl rfl ?_; simp only [List.nil_append, List.cons_append]
      refine inw_readS 4 16 (v := .string ⟨#[0, UInt8.ofNat n]⟩) rfl rfl (fun _ => rfl) (fun b W h => run_cvE rfl rfl (bytes_text2 0 (UInt8.ofNat n) b W h)) ?_; simp only [nm0, nm1, nm2, nm3]
      refine inw_callV (f := 49) (args := #[.string ⟨#[0, UInt8.ofNat n]⟩]) (v := .string ⟨#[48, 48, hexC (n / 16), hexC (n % 16)]⟩) (fun W => run_call_fn W (enters_of Tryd.func49 (by kernel_rfl) rfl) rfl (by simp [Act.eval])) (fun W _ => HKH.out W) rfl rfl ?_; simp only [nm0, nm1, nm2, nm3]
      refine inw_pure (v := .string ⟨(oneV n).toArray⟩) (fun W => run_bin_of rfl rfl rfl (by rw [ho]; exact add_str (S := ⟨#[92, 117]⟩) (T := ⟨#[48, 48, hexC (n / 16), hexC (n % 16)]⟩) _ _ W (by show 2 + 4 ≤ _; decide))) rfl rfl ?_; simp only [nm0, nm1, nm2, nm3]
      refine inw_pure (v := .string ⟨(oneV n).toArray⟩) (fun _ => rfl) rfl rfl ?_; simp only [nm0, nm1, nm2, nm3]
      refine inw_fin fun d os => ?_
      refine given_mk (t := 12) rfl fun s1 => ?_
      refine given_mk (t := 16) rfl fun s2 => ?_
      refine given_nil fun hap => ?_
      simp only [nm0, nm1, nm2, nm3] at hap ⊢
      have hb8 := below_regrown w1 d os
      clear hap
      generalize Sort.grow (redrawn w1 d) os = W8 at hb8 ⊢
      refine wpAny_done (by kernel_rfl) ?_ _
      go_wp2_with fail
      go_ret
      exact ⟨rfl, hb8⟩
    · have p32 : ¬ (n : Int) < 32 := by omega
      have ho : oneV n = form n := by unfold oneV; rw [hl]; simp only; rw [if_neg h32]
      have KF := Lib.hid (fun w => form_any n w hn)
      rw [ho]
      go_enter Tryd.func28, Tryd.ntmps28
      go_wp2_with fail
      refine (KS.out w).mono ?_
      rintro e w1 ⟨rfl, rfl⟩
      go_wp2_with fail
      refine (KF.out _).mono ?_
      rintro e w2 ⟨rfl, hb2⟩
      go_wp2_with fail
      go_ret
      exact ⟨rfl, hb2⟩
theorem cps_valid2 : ∀ (d : Nat) (l : List UInt8) (a : Nat), l.length - a = d → ∀ x ∈ cpsAt l a, isCp x.2 := by
  intro d
  induction d using Nat.strongRecOn with
  | ind d ih =>
    intro l a hd x hx
    cases h : nx (l.drop a) with
    | none => rw [cpsAt_none h] at hx; cases hx
    | some y =>
      obtain ⟨n, k⟩ := y
      rw [cpsAt_some h] at hx
      have h1 := nx_lt h
      rcases List.mem_cons.1 hx with rfl | hx
      · exact (nx_iff.1 h).1
      · exact ih (l.length - (a + k)) (by omega) l (a + k) rfl x hx
def outN (ns : List Nat) : List UInt8 := 34 :: ns.flatMap oneV
theorem outN_snoc (ns : List Nat) (n : Nat) : outN (ns ++ [n]) = outN ns ++ oneV n := by simp [outN]
theorem outN_len : ∀ ns : List Nat, (outN ns).length ≤ 1 + 6 * ns.length
  | [] => by simp [outN]
  | n :: ns => by
    have h := outN_len ns
    have h6 : (oneV n).length ≤ 6 := by
      by_cases h : (letV n).isSome = true ∨ n < 32
      · exact oneV_len n h
      · unfold oneV
        split
        · simp
        · rw [if_neg (fun h2 => h (.inr h2))]
          have := form_few n
          omega
    unfold outN at h ⊢
    rw [List.flatMap_cons]
    simp only [List.length_cons, List.length_append] at h ⊢
    omega
theorem quote_outN (L : List UInt8) : quoteL L = outN (cpN L) ++ [34] := by
  unfold quoteL outL outN cpN
  rw [List.flatMap_map]
theorem take_one (ns : List Nat) (k : Nat) (h : k < ns.length) : ns.take (k + 1) = ns.take k ++ [ns.getD k 0] := by
  rw [List.take_add_one, List.getElem?_eq_getElem h, List.getD_eq_getElem?_getD, List.getElem?_eq_getElem h]
  rfl
set_option maxRecDepth 100000 in
set_option maxHeartbeats 4000000 in
theorem rquote_any (s : ByteArray) (w : World) (hs : s.size ≤ 1000) :
    Calls Tryd.prog 11 #[.string s] w fun e w' => e = .returned (quoteR s.data.toList) ∧ Below w.heap.size w w' := by
  have hlen := len_of s
  have KA := Lib.hid (fun w => rall_any s w (by omega))
  have kt : ∀ W : World, (convert 51 9 (.slice (some ⟨W.heap.size, 0, none⟩) 1 1)).run Tryd.prog (W.alloc (.cells #[.int .u8 34] 5)) = .ok (.string ⟨#[34]⟩) (W.alloc (.cells #[.int .u8 34] 5)) := fun W =>
    run_convert_bytes_back (P := Tryd.prog) _ 51 9 5 ⟨W.heap.size, 0, none⟩ 1 [34] Tryd.underlying51 Tryd.underlying5 Tryd.underlying9 (fun j hj => by
      have hadd : (⟨W.heap.size, 0, none⟩ : Addr).add j = ⟨W.heap.size, j, none⟩ := by unfold Addr.add; split <;> simp_all
      rw [hadd]
      obtain rfl : j = 0 := by simp at hj; omega
      exact (Boxed.new W _ _).cell)
  go_enter Tryd.func11, Tryd.ntmps11
  go_wp2_with fail
  refine (KA.out w).mono ?_
  rintro e w1 ⟨v5, v6, a, he, hz, h5, -, hb1⟩
  have h5n := rowN_of h5
  unfold retA at he
  subst he
  by_cases hv : a = s.size
  · subst hv
    have hcp : ∀ x ∈ cpN s.data.toList, isCp x := fun x hx => by
      unfold cpN at hx
      obtain ⟨y, hy, rfl⟩ := List.mem_map.1 hx
      exact cps_valid2 _ _ 0 rfl y hy
    have hq : quoteR s.data.toList = .tuple #[.string ⟨(outN (cpN s.data.toList) ++ [34]).toArray⟩, .int .i64 0] := by
      unfold quoteR
      rw [if_pos (by unfold validB; rw [hz, hlen]; simp), quote_outN]
    have hnl : (cpN s.data.toList).length ≤ 1000 := by
      have := cps_len _ s.data.toList 0 rfl
      unfold cpN
      rw [List.length_map]
      omega
    have HQ := Lib.hid hq
    clear hq hz h5
    generalize cpN s.data.toList = ns at *
    obtain ⟨o, c, rfl, hcell⟩ := h5n.ex
    have HC := Lib.hid hcell
    clear hcell h5n
    have HB1 := Lib.hid hb1
    have KO := Lib.hid (fun n hn w => rone_any n hn w)
    go_wp2_with fail
    go_loopw [7, 8] (fun tv i wr => ∃ k : Nat, k ≤ ns.length ∧ i = .int .i64 (k : Int) ∧ tv = .string ⟨(outN (ns.take k)).toArray⟩ ∧ Below w1.heap.size w1 wr) (fun _ i _ => ns.length - (RowKit.intOf i).toNat)
    case atStart => exact ⟨0, Nat.zero_le _, rfl, rfl, (Below.refl _ _).alloc (Nat.le_refl _) _⟩
    case round =>
      obtain ⟨k, hk, rfl, rfl, hb⟩ := hrel
      have hol : (outN (ns.take k)).length ≤ 6001 := by
        have := outN_len (ns.take k)
        rw [List.length_take] at this
        omega
      by_cases hlt : k < ns.length
      · obtain ⟨g, rfl, hg, hc⟩ := HC.out (by omega)
        have hck := (hb.cell (p := ⟨g, k, none⟩) hg).trans (hc k hlt)
        have hcn := hcp (ns.getD k 0) (by
          rw [List.getD_eq_getElem?_getD, List.getElem?_eq_getElem hlt]
          exact List.getElem_mem hlt)
        have HT := Lib.hid (take_one ns k hlt)
        have KN := Lib.hid (fun w => KO.out (ns.getD k 0) hcn w)
        have h6 := outN_len (ns.take (k + 1))
        rw [take_one ns k hlt, outN_snoc, List.length_append, List.length_append, List.length_take] at h6
        have p1 : (k : Int) < (ns.length : Int) := by omega
        have p3 : IntKind.i64.wrap ((k : Int) + 1) = (k : Int) + 1 := IntWalk.i64_in _ (by omega)
        have hcat := cat_bytes (outN (ns.take k)) (oneV (ns.getD k 0))
        have p4 : ¬ 9223372036854775807 < (outN (ns.take k)).length + (oneV (ns.getD k 0)).length := by
          simp only [List.length_singleton] at h6
          omega
        clear h6 hol
        generalize ns.getD k 0 = n at *
        go_wp2_with fail
        refine (KN.out _).mono ?_
        rintro e w2 ⟨rfl, hb2⟩
        go_wp2_with fail
        exact ⟨⟨k + 1, hlt, rfl, by rw [HT.out, outN_snoc], hb.trans (hb2.mono hb.size)⟩, by simp [RowKit.intOf]; omega⟩
      · obtain rfl : k = ns.length := by omega
        rw [List.take_length] at hol ⊢
        have hcat : (⟨(outN ns).toArray⟩ : ByteArray) ++ ⟨#[34]⟩ = ⟨(outN ns ++ [34]).toArray⟩ := cat_bytes (outN ns) [34]
        have p4 : ¬ 9223372036854775807 < (outN ns).length + 1 := by omega
        clear hol
        go_wp2_with fail
        go_ret2
        exact ⟨by rw [HQ.out]; rfl, HB1.out.trans ((hb.alloc hb.size _).mono HB1.out.size)⟩
  · have e1 : ((a : Int) != (s.size : Int)) = true := by simp; omega
    have hnv : quoteR s.data.toList = .tuple #[.string ⟨#[]⟩, .int .i64 10] := by
      unfold quoteR
      rw [if_neg (by unfold validB; rw [hz, hlen]; simp; omega)]
    have HQ := Lib.hid hnv
    clear hnv
    go_wp2_with fail
    go_ret2
    exact ⟨by rw [HQ.out]; rfl, hb1⟩
set_option maxHeartbeats 4000000 in
theorem escQuotes_w (s : ByteArray) (w : World) (hT : Tabs w) : Calls Tryd.prog 3 #[.string s] w fun e w' => e = .returned (.bool true) ∧ Below w.heap.size w w' := by
  have h2 := tabs_size hT
  by_cases hs : 300 < s.size
  · have p1 : (300 : Int) < (s.size : Int) := by omega
    go_enter Tryd.func3, Tryd.ntmps3
    go_wp2_with fail
    refine (elives_any w hT).mono ?_
    rintro e w1 ⟨rfl, hb1⟩
    go_wp2_with fail
    go_ret
    exact ⟨rfl, hb1⟩
  · have p1 : ¬ (300 : Int) < (s.size : Int) := by omega
    have K1 := fun w hT => quote_any s (by omega) w hT
    have K2 := fun w => rquote_any s w (by omega)
    have K3 := fun w hT => size_any s (by omega) w hT
    have hqr : ∃ (Q : List UInt8) (M : Nat), quoteR s.data.toList = .tuple #[.string ⟨Q.toArray⟩, .int .i64 (M : Int)] ∧ sizeR s.data.toList = Q.length := by
      by_cases hv : validB s.data.toList = true
      · exact ⟨quoteL s.data.toList, 0, by unfold quoteR; rw [if_pos hv]; rfl, by unfold sizeR; rw [if_pos hv]⟩
      · exact ⟨[], 10, by unfold quoteR; rw [if_neg hv]; rfl, by unfold sizeR; rw [if_neg hv]; rfl⟩
    obtain ⟨Q, M, hq, hz⟩ := hqr
    rw [hq] at K1 K2
    rw [hz] at K3
    have H1 := Lib.hid K1
    have H2 := Lib.hid K2
    have H3 := Lib.hid K3
    clear K1 K2 K3 hq hz
    go_enter Tryd.func3, Tryd.ntmps3
    go_wp2_with fail
    refine (H1.out _ hT).mono ?_
    rintro e w1 ⟨rfl, hb1⟩
    have T1 := Lib.hid (tabs_low h2 hT hb1)
    have HB1 := Lib.hid hb1
    clear hb1 hT
    go_wp2_with fail
    refine (H2.out w1).mono ?_
    rintro e w2 ⟨rfl, hb2⟩
    have hb2' : Below w.heap.size w1 w2 := hb2.mono HB1.out.size
    have T2 := Lib.hid (tabs_low h2 T1.out hb2')
    have HB2 := Lib.hid (HB1.out.trans hb2')
    clear hb2 hb2'
    go_wp2_with fail
    refine (H3.out w2 T2.out).mono ?_
    rintro e w3 ⟨rfl, hb3⟩
    have hb3' : Below w.heap.size w2 w3 := hb3.mono HB2.out.size
    have T3 := Lib.hid (tabs_low h2 T2.out hb3')
    have HB3 := Lib.hid (HB2.out.trans hb3')
    clear hb3 hb3'
    go_wp2_with fail
    refine (elives_any w3 T3.out).mono ?_
    rintro e w4 ⟨rfl, hb4⟩
    go_wp2_with fail
    go_ret
    exact ⟨rfl, HB3.out.trans (hb4.mono HB3.out.size)⟩
end Go.Proofs.YtcadklhjhjbhaaaDoor
