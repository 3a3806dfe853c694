/- host (layer 27): HostBack, put together. -/
import Derived.Test.YtdnkpclpcelbaaaDoorHosU
import Derived.Test.YtdnkpclpcelbaaaDoorRows
import Derived.Lib.LaidTab
import Derived.LaidSub
namespace Go.Proofs.YtdnkpclpcelbaaaDoor
set_option maxRecDepth 20000
set_option linter.unusedSimpArgs false
set_option linter.unusedVariables false
open Go.RowKit Go.Lib
theorem prt_has {c x : UInt8} (hx : x ≠ c) : ∀ (l acc : List UInt8), (x ∈ l ∨ x ∈ acc) → ∃ P ∈ prt c acc l, x ∈ P
  | [], acc, h => ⟨acc, by rw [prt_nil]; simp, by simpa using h⟩
  | y :: r, acc, h => by
    rw [prt_cons]
    by_cases e : y = c
    · rw [if_pos e]
      rcases h with h | h
      · rcases List.mem_cons.1 h with rfl | h
        · exact absurd e hx
        · obtain ⟨P, hP, hm⟩ := prt_has hx r [] (.inl h)
          exact ⟨P, List.mem_cons_of_mem _ hP, hm⟩
      · exact ⟨acc, by simp, h⟩
    · rw [if_neg e]
      refine prt_has hx r (acc ++ [y]) ?_
      rcases h with h | h
      · rcases List.mem_cons.1 h with rfl | h
        · exact .inr (by simp)
        · exact .inl h
      · exact .inr (by simp [h])
theorem dec_mem (n : Nat) : ∀ x ∈ Lib.decDigits n, 48 ≤ x.toNat ∧ x.toNat ≤ 57 := by
  induction n using Nat.strongRecOn with
  | _ n ih =>
    intro x hx
    rw [Lib.decDigits] at hx
    split at hx
    · simp at hx; subst hx; simp; omega
    · rcases List.mem_append.1 hx with h | h
      · exact ih (n / 10) (by omega) x h
      · simp at h; subst h; simp; omega
theorem dec_ne (n : Nat) : Lib.decDigits n ≠ [] := fun h => by
  have := Lib.nDigits_pos n
  rw [← Lib.decDigits_length, h] at this
  exact absurd this (by decide)
theorem itoa_nat (p : Nat) : Lib.itoa (p : Int) = Lib.decDigits p := by
  rw [Lib.itoa, if_neg (by omega), Int.toNat_natCast]
theorem ok_dig {P : List UInt8} (h : okN P = true) : ∀ x ∈ P, x.toNat ≤ 57 := by
  obtain ⟨h1, h2, h3⟩ := numI_yes h
  intro x hx
  have e : P = Lib.itoa (numI ⟨P.toArray⟩ 0 255).1 := by
    rw [← showB_list, h3]
  rw [e, Lib.itoa, if_neg (by omega)] at hx
  exact (dec_mem _ x hx).2
theorem word_colon {t : List UInt8} (h : (58 : UInt8) ∈ t) : wordB t = false := by
  obtain ⟨P, hP, hm⟩ := prt_has (c := 46) (by decide) t [] (.inl h)
  cases hw : wordB t with
  | false => rfl
  | true =>
    exfalso
    unfold wordB at hw
    rw [Bool.and_eq_true] at hw
    have hg := List.all_eq_true.1 hw.1 P hP
    unfold goodL at hg
    simp only [Bool.and_eq_true] at hg
    have := List.all_eq_true.1 hg.2.2.1 58 hm
    exact absurd this (by decide)
theorem four_colon {t : List UInt8} (h : (58 : UInt8) ∈ t) : fourB t = false := by
  obtain ⟨P, hP, hm⟩ := prt_has (c := 46) (by decide) t [] (.inl h)
  cases hw : fourB t with
  | false => rfl
  | true =>
    exfalso
    unfold fourB at hw
    rw [Bool.and_eq_true] at hw
    have := ok_dig (List.all_eq_true.1 hw.2 P hP) 58 hm
    exact absurd this (by decide)
theorem last_dig (a b : List UInt8) (hb : b ≠ []) (hd : ∀ x ∈ b, x.toNat ≤ 57) : ((a ++ b).getD ((a ++ b).length - 1) 0).toNat ≠ 93 := by
  have h0 := List.length_pos_iff.2 hb
  have hl : (a ++ b).length = a.length + b.length := List.length_append
  rw [hl, List.getD_eq_getElem?_getD, List.getElem?_append_right (by omega), List.getElem?_eq_getElem (by omega)]
  have := hd _ (List.getElem_mem (l := b) (n := a.length + b.length - 1 - a.length) (by omega))
  simp only [Option.getD_some]
  omega
theorem kind_port (a : List UInt8) (p : Nat) : kindI (a ++ 58 :: Lib.decDigits p) = 0 := by
  have hm : (58 : UInt8) ∈ a ++ 58 :: Lib.decDigits p := by simp
  have hb : bracB (a ++ 58 :: Lib.decDigits p) = false := by
    have := last_dig (a ++ [58]) (Lib.decDigits p) (dec_ne p) fun x hx => (dec_mem p x hx).2
    rw [List.append_assoc, List.singleton_append] at this
    unfold bracB
    rw [show ((((a ++ 58 :: Lib.decDigits p).getD ((a ++ 58 :: Lib.decDigits p).length - 1) 0).toNat == 93) = false) by simpa using this]
    simp
  unfold kindI
  rw [word_colon hm, four_colon hm, hb]
  rfl
theorem ba_get (l : List UInt8) (k : Nat) (h : k < l.length) : ((⟨l.toArray⟩ : ByteArray).data[k]!) = l.getD k 0 := by
  show (l.toArray)[k]! = _
  rw [getElem!_pos l.toArray k (by simpa using h), List.getD_eq_getElem?_getD, List.getElem?_eq_getElem h]
  simp
theorem at_port (a b : List UInt8) (hb : ∀ x ∈ b, x.toNat ≤ 57) : atI (a ++ 58 :: b) = (a.length : Int) := by
  have hl : (a ++ 58 :: b).length = a.length + (b.length + 1) := by simp
  have hz := ba_size (a ++ 58 :: b)
  have h58 : (a ++ 58 :: b).getD a.length 0 = 58 := by
    rw [List.getD_eq_getElem?_getD, List.getElem?_append_right (by omega)]
    simp
  have hlow : ∀ i, a.length < i → i < (a ++ 58 :: b).length → ((a ++ 58 :: b).getD i 0).toNat ≤ 57 := by
    intro i h1 h2
    rw [List.getD_eq_getElem?_getD, List.getElem?_append_right (by omega)]
    obtain ⟨j, hj⟩ : ∃ j, i - a.length = j + 1 := ⟨i - a.length - 1, by omega⟩
    rw [hj, List.getElem?_cons_succ, List.getElem?_eq_getElem (by omega)]
    exact hb _ (List.getElem_mem _)
  rcases Lib.lastIndexByte_spec ⟨(a ++ 58 :: b).toArray⟩ 58 with ⟨-, h⟩ | ⟨i, h1, h2, h3, h4⟩
  · have := h a.length (by omega)
    rw [ba_get _ _ (by omega), h58] at this
    exact absurd rfl this
  · show Lib.lastIndexByte ⟨(a ++ 58 :: b).toArray⟩ 58 = _
    rw [h2]
    rw [ba_get _ _ (by omega)] at h3
    rcases Nat.lt_trichotomy i a.length with c | c | c
    · have := h4 a.length c (by omega)
      rw [ba_get _ _ (by omega), h58] at this
      exact absurd rfl this
    · rw [c]
    · have := hlow i c (by omega)
      omega
theorem num_port (p : Nat) (hp : p ≤ 65535) : numV (Lib.decDigits p) = if 1 ≤ p then ((p : Int), true) else (0, false) := by
  have e : (⟨(Lib.decDigits p).toArray⟩ : ByteArray) = showB (p : Int) := by unfold showB; rw [itoa_nat]
  have hs := show_scan (p : Int)
  rw [if_pos ⟨by omega, by omega⟩] at hs
  unfold numV numI
  rw [e, hs]
  by_cases h : 1 ≤ p
  · rw [if_pos h, if_pos ⟨rfl, rfl, by simp only; omega, by simp only; omega⟩]
  · rw [if_neg h, if_neg (fun c => h (by have := c.2.2.1; simp only at this; omega))]
theorem pv_port (a : List UInt8) (p : Nat) (hp : p ≤ 65535) (ha : kindI a ≠ 0) : partsV (a ++ 58 :: Lib.decDigits p) = if 230 < (a ++ 58 :: Lib.decDigits p).length then ([], 0, 4) else if 1 ≤ p then (a, (p : Int), 0) else ([], 0, 25) := by
  unfold partsV
  by_cases c : 230 < (a ++ 58 :: Lib.decDigits p).length
  · rw [if_pos c, if_pos c]
  rw [if_neg c, if_neg c, kind_port, if_neg (fun h => h rfl), at_port a _ (fun x hx => (dec_mem p x hx).2), if_neg (by omega), Int.toNat_natCast, List.take_left, if_neg ha]
  have e : (a ++ 58 :: Lib.decDigits p).drop (a.length + 1) = Lib.decDigits p := by
    rw [List.drop_append]; simp
  rw [e, num_port p hp]
  by_cases h : 1 ≤ p
  · rw [if_pos h, if_pos h]; rfl
  · rw [if_neg h, if_neg h]; rfl
theorem pv_cases (l : List UInt8) : (partsV l = ([], 0, 4) ∨ partsV l = ([], 0, 25)) ∨ (partsV l = (l, 0, 0) ∧ kindI l ≠ 0) ∨ ∃ (a : List UInt8) (n : Nat), partsV l = (a, (n : Int), 0) ∧ kindI a ≠ 0 ∧ 1 ≤ n ∧ n ≤ 65535 ∧ l = a ++ 58 :: Lib.decDigits n := by
  unfold partsV
  by_cases c1 : 230 < l.length
  · rw [if_pos c1]; exact .inl (.inl rfl)
  rw [if_neg c1]
  by_cases c2 : kindI l ≠ 0
  · rw [if_pos c2]; exact .inr (.inl ⟨rfl, c2⟩)
  rw [if_neg c2]
  by_cases c3 : atI l < 0
  · rw [if_pos c3]; exact .inl (.inr rfl)
  rw [if_neg c3]
  by_cases c4 : kindI (l.take (atI l).toNat) = 0
  · rw [if_pos c4]; exact .inl (.inr rfl)
  rw [if_neg c4]
  by_cases c5 : (numV (l.drop ((atI l).toNat + 1))).2 = true
  · rw [if_pos c5]
    refine .inr (.inr ?_)
    obtain ⟨h1, h2, h3⟩ := numI_yes c5
    obtain ⟨n, hn⟩ : ∃ n : Nat, (numV (l.drop ((atI l).toNat + 1))).1 = n := ⟨(numV (l.drop ((atI l).toNat + 1))).1.toNat, by unfold numV; omega⟩
    unfold numV at hn
    rw [hn] at h1 h2 h3
    refine ⟨l.take (atI l).toNat, n, by unfold numV; rw [hn], c4, by omega, by omega, ?_⟩
    have e : Lib.decDigits n = l.drop ((atI l).toNat + 1) := by
      rw [← itoa_nat, ← showB_list, h3]
    rw [e]
    rcases Lib.lastIndexByte_spec ⟨l.toArray⟩ 58 with ⟨h, -⟩ | ⟨i, g1, g2, g3, -⟩
    · have : atI l = -1 := h
      omega
    · have hi : atI l = (i : Int) := g2
      rw [ba_size] at g1
      rw [ba_get _ _ g1, List.getD_eq_getElem?_getD, List.getElem?_eq_getElem g1] at g3
      simp only [Option.getD_some] at g3
      have h58 : l[i] = 58 := UInt8.toNat_inj.1 (by have : (58 : UInt8).toNat = 58 := rfl; omega)
      rw [hi, Int.toNat_natCast]
      conv => lhs; rw [← List.take_append_drop i l, List.drop_eq_getElem_cons g1, h58]
  · rw [if_neg c5]; exact .inl (.inr rfl)
end Go.Proofs.YtdnkpclpcelbaaaDoor
namespace Go.Proofs.YtdnkpclpcelbaaaDoor
open Go.RowKit Go.Lib Go.Shelf Go.Sort
theorem tt_eq (a : List UInt8) (p : Nat) : (⟨a.toArray⟩ : ByteArray) ++ ⟨#[58]⟩ ++ showB (p : Int) = ⟨(a ++ 58 :: Lib.decDigits p).toArray⟩ := by
  have e : showB (p : Int) = ⟨(Lib.decDigits p).toArray⟩ := by unfold showB; rw [itoa_nat]
  rw [e]
  apply ByteArray.ext
  simp [ByteArray.data_append]
theorem bin_add (A B : ByteArray) (h : A.size + B.size ≤ 9223372036854775807) (x y : Operand) (W : World) : (do eqGuard .add 9 x y (.string A) (.string B); binOp .add 9 (.string A) (.string B) : Sem Value).run Tryd.prog W = .ok (.string (A ++ B)) W := add_str (P := Tryd.prog) (ty := 9) x y W h
theorem hostBack_w (S : ByteArray) (p : Nat) (hp : p ≤ 65535) (m : Int) (w : World) (hm : w.cell? ⟨gMaxH, 0, none⟩ = some (.int .i64 m)) (hT : Tab w) :
    Calls Tryd.prog 4 #[.string S, .int .u16 (p : Int)] w fun e w' => e = .returned (.bool true) ∧ Below w.heap.size w w' := by
  by_cases c1 : 300 < S.size
  · exact hback_long S p (by omega) m w hm hT
  have q1 : ¬ (300 : Int) < (S.size : Int) := by omega
  obtain ⟨l, el⟩ : ∃ l : List UInt8, S = ⟨l.toArray⟩ := ⟨S.data.toList, rfl⟩
  have hl : l.length ≤ 300 := by
    have := ba_size l
    rw [el] at c1
    omega
  have K1 : ∀ w m, w.cell? ⟨gMaxH, 0, none⟩ = some (.int .i64 m) → Calls Tryd.prog 8 #[.string S] w fun e w' => e = retHP (partsV l) ∧ Below w.heap.size w w' := fun w m hm => by
    rw [el]; exact hparts_any l (by omega) m w hm
  have hzp : (showB (p : Int)).size ≤ 5 := show_few p (by omega) (by omega)
  have hzl : (Lib.decDigits p).length ≤ 5 := by rw [← itoa_nat, ← show_size]; exact hzp
  have KP : ∀ w, Tab w → Calls Tryd.prog 12 #[.int .i64 (p : Int)] w fun e w' => e = .returned (.string (showB (p : Int))) ∧ Below w.heap.size w w' := fun w hT => show_any p w (by omega) (by omega) hT
  have main : ∀ a : List UInt8, a.length ≤ 300 → kindI a ≠ 0 →
      (∀ (x y : Operand) (W : World), (do eqGuard .add 9 x y (.string ⟨a.toArray⟩) (.string ⟨#[58]⟩); binOp .add 9 (.string ⟨a.toArray⟩) (.string ⟨#[58]⟩) : Sem Value).run Tryd.prog W = .ok (.string ((⟨a.toArray⟩ : ByteArray) ++ ⟨#[58]⟩)) W) ∧
      (∀ q : Nat, (showB (q : Int)).size ≤ 5 → ∀ (x y : Operand) (W : World), (do eqGuard .add 9 x y (.string ((⟨a.toArray⟩ : ByteArray) ++ ⟨#[58]⟩)) (.string (showB (q : Int))); binOp .add 9 (.string ((⟨a.toArray⟩ : ByteArray) ++ ⟨#[58]⟩)) (.string (showB (q : Int))) : Sem Value).run Tryd.prog W = .ok (.string ⟨(a ++ 58 :: Lib.decDigits q).toArray⟩) W) ∧
      (∀ w m, w.cell? ⟨gMaxH, 0, none⟩ = some (.int .i64 m) → Calls Tryd.prog 8 #[.string ⟨(a ++ 58 :: Lib.decDigits p).toArray⟩] w fun e w' => e = retHP (if 230 < (a ++ 58 :: Lib.decDigits p).length then ([], 0, 4) else if 1 ≤ p then (a, (p : Int), 0) else ([], 0, 25)) ∧ Below w.heap.size w w') ∧
      (∀ w m, w.cell? ⟨gMaxH, 0, none⟩ = some (.int .i64 m) → Calls Tryd.prog 10 #[.string ⟨a.toArray⟩] w fun e w' => e = .returned (.int .i64 (kindI a)) ∧ Below w.heap.size w w') := by
    intro a ha hk
    have z1 := ba_size a
    have z2 : ((⟨a.toArray⟩ : ByteArray) ++ ⟨#[58]⟩).size = a.length + 1 := by rw [ByteArray.size_append, z1]; rfl
    refine ⟨bin_add _ _ (by rw [z1]; show a.length + 1 ≤ _; omega), fun q hq x y W => ?_, fun w m hm => ?_, fun w m hm => kind_any a (by omega) m w hm⟩
    · have h := bin_add ((⟨a.toArray⟩ : ByteArray) ++ ⟨#[58]⟩) (showB (q : Int)) (by rw [z2]; omega) x y W
      rw [tt_eq] at h
      exact h
    · have h := hparts_any (a ++ 58 :: Lib.decDigits p) (by simp; omega) m w hm
      rw [pv_port a p hp hk] at h
      exact h
  rcases pv_cases l with (h | h) | ⟨h, hk⟩ | ⟨a, n, h, hk, hn1, hn2, hs⟩
  · rw [h] at K1
    exact hback_err4 S p q1 K1 m w hm hT
  · rw [h] at K1
    exact hback_err25 S p q1 K1 m w hm hT
  · obtain ⟨hY, hTT, K2, K3⟩ := main l hl hk
    have hTT := hTT p hzp
    rw [h] at K1
    rw [← el] at hY
    have e1 : retHP (l, (0 : Int), (0 : Int)) = .returned (.tuple #[.string S, .int .i64 0, .int .i64 0]) := by rw [el]
    rw [e1] at K1
    have hk2 : (kindI l == 0) = false := by simpa using hk
    have zt := ba_size (l ++ 58 :: Lib.decDigits p)
    by_cases cp : p = 0
    · subst cp
      by_cases c6 : 230 < (l ++ 58 :: Lib.decDigits 0).length
      · rw [if_pos c6] at K2
        rw [← el] at hTT K3
        exact hback_nzl S _ _ _ _ q1 hk hk2 hY hTT KP (by rw [zt]; omega) K1 K2 K3 m w hm hT
      · rw [if_neg c6, if_neg (by decide)] at K2
        rw [← el] at hTT K3
        exact hback_nzo S _ _ _ _ q1 hk hk2 hY hTT KP (by rw [zt]; omega) K1 K2 K3 m w hm hT
    · have qp : ((p : Int) == 0) = false := by simpa using cp
      have qp3 : IntKind.i64.wrap (p : Int) = (p : Int) := IntWalk.i64_in _ (by omega)
      by_cases c6 : 230 < (l ++ 58 :: Lib.decDigits p).length
      · rw [if_pos c6] at K2
        rw [← el] at hTT K3
        exact hback_nsl S _ _ _ _ _ q1 hk hk2 (by omega) (by omega) qp (by omega) qp3 hY hTT KP (by rw [zt]; omega) K1 K2 K3 m w hm hT
      · rw [if_neg c6, if_pos (by omega)] at K2
        have e2 : retHP (l, (p : Int), (0 : Int)) = .returned (.tuple #[.string S, .int .i64 (p : Int), .int .i64 0]) := by rw [el]
        rw [e2] at K2
        rw [← el] at hTT K3
        exact hback_nso S _ _ _ _ _ q1 hk hk2 (by omega) (by omega) qp (by omega) qp3 hY hTT KP (by rw [zt]; omega) K1 K2 K3 m w hm hT
  · have hal : a.length ≤ 300 := by rw [hs] at hl; simp at hl; omega
    obtain ⟨hY, hTT0, K2, K3⟩ := main a hal hk
    have hTT := hTT0 p hzp
    have hZN := hTT0 n (show_few n (by omega) (by omega))
    rw [h] at K1
    rw [← hs, ← el] at hZN
    have hk2 : (kindI a == 0) = false := by simpa using hk
    have qn : ((n : Int) == 0) = false := by simp; omega
    have KN : ∀ w, Tab w → Calls Tryd.prog 12 #[.int .i64 (n : Int)] w fun e w' => e = .returned (.string (showB (n : Int))) ∧ Below w.heap.size w w' := fun w hT => show_any n w (by omega) (by omega) hT
    have zt := ba_size (a ++ 58 :: Lib.decDigits p)
    by_cases cp : p = 0
    · subst cp
      by_cases c6 : 230 < (a ++ 58 :: Lib.decDigits 0).length
      · rw [if_pos c6] at K2
        exact hback_pzl S _ _ _ _ _ _ _ _ q1 hk hk2 (by omega) (by omega) qn (by omega) (by omega) hY hZN KN hY hTT KP (by rw [zt]; omega) K1 K2 K3 m w hm hT
      · rw [if_neg c6, if_neg (by decide)] at K2
        exact hback_pzo S _ _ _ _ _ _ _ _ q1 hk hk2 (by omega) (by omega) qn (by omega) (by omega) hY hZN KN hY hTT KP (by rw [zt]; omega) K1 K2 K3 m w hm hT
    · have qp : ((p : Int) == 0) = false := by simpa using cp
      have qp3 : IntKind.i64.wrap (p : Int) = (p : Int) := IntWalk.i64_in _ (by omega)
      by_cases c6 : 230 < (a ++ 58 :: Lib.decDigits p).length
      · rw [if_pos c6] at K2
        exact hback_psl S _ _ _ _ _ _ _ _ _ q1 hk hk2 (by omega) (by omega) qn (by omega) (by omega) hY hZN KN (by omega) (by omega) qp (by omega) qp3 hY hTT KP (by rw [zt]; omega) K1 K2 K3 m w hm hT
      · rw [if_neg c6, if_pos (by omega)] at K2
        exact hback_pso S _ _ _ _ _ _ _ _ _ q1 hk hk2 (by omega) (by omega) qn (by omega) (by omega) hY hZN KN (by omega) (by omega) qp (by omega) qp3 hY hTT KP (by rw [zt]; omega) K1 K2 K3 m w hm hT
theorem gPowH : (Tryd.prog.globals[1]?).map (·.type) = some 131 := by kernel_rfl
theorem cellsPowH : Tryd.prog.cellsOf 131 = 20 := by kernel_rfl
theorem cellsU6H : Tryd.prog.cellsOf 110 = 1 := by kernel_rfl
theorem laidPowH : (Rows.laid_internal_strconv_uint64pow10 : DataW Unit) = Lib.tabData .u64 Lib.pow10Tab := by rfl
theorem tab_of_back {W : World} (h : laidMetH Tryd.prog Rows.hostBackRow.laid W) : Tab W := by
  have h2 := laidMetH.filter (fun x => x.1 == "internal/strconv.uint64pow10") h
  have e : (Rows.hostBackRow.laid.filter fun x => x.1 == "internal/strconv.uint64pow10") = [("internal/strconv.uint64pow10", Lib.tabData .u64 Lib.pow10Tab)] := by
    rw [← laidPowH]
    rfl
  rw [e] at h2
  exact Lib.tabIs_of_head (rest := []) gTab gPowH Tryd.underlying131 Tryd.underlying110 cellsU6H cellsPowH h2
theorem hostBack_walk (S : ByteArray) (z : Int) (w : World) (_ : S.size ≤ maxLen) (hz : (Lit.int .u16 z).wf = true) (hL : laidMetH Tryd.prog Rows.hostBackRow.laid w) (hS : w.ShapedOpen Tryd.prog) :
    Calls Tryd.prog 4 #[.string S, .int .u16 z] w fun e w' => e = .returned (.bool true) ∧ Below w.heap.size w w' := by
  obtain ⟨m, hm⟩ := max_of_host hS
  have h : 0 ≤ z ∧ z ≤ 65535 := by simpa [Lit.wf, IntKind.min, IntKind.max, IntKind.signed, IntKind.bits] using hz
  obtain ⟨p, rfl⟩ : ∃ p : Nat, z = p := ⟨z.toNat, by omega⟩
  exact hostBack_w S p (by omega) m w hm (tab_of_back hL)
end Go.Proofs.YtdnkpclpcelbaaaDoor
