/- lex (layer 6): a word is read alike wherever it stands; plain. lex (layer 6): other blanks, the same words; plain. lex (layer 6): the reference's tokens; are lists of tokens the same. lex (layer 6): are lists of tokens the same. lex (layer 6): All: the iterator over an iterator. lex (layer 6): LexTokens. lex (layer 6): LexBlanks. LexBlanks for its frame. -/
import Derived.Test.YtndifilhfiooaaaDoorPm06
import Derived.Test.YtndifilhfiooaaaDoorPm08
namespace Go.Proofs.YtndifilhfiooaaaDoor
set_option maxRecDepth 20000
set_option linter.unusedSimpArgs false
set_option linter.unusedVariables false
open Go.RowKit Go.Lib Go.Shelf
/-- The same bytes stand at two places. -/
def Loc (L : List UInt8) (i : Nat) (L' : List UInt8) (i' n : Nat) : Prop := i + n ≤ L.length ∧ i' + n ≤ L'.length ∧ ∀ k, k < n → at_ L' (i' + k) = at_ L (i + k)
theorem Loc.sub {L L' : List UInt8} {i i' n : Nat} (h : Loc L i L' i' n) (j m : Nat) (hj : j + m ≤ n) : Loc L (i + j) L' (i' + j) m :=
  ⟨by have := h.1; omega, by have := h.2.1; omega, fun k hk => by rw [Nat.add_assoc, Nat.add_assoc]; exact h.2.2 (j + k) (by omega)⟩
theorem at_some {L : List UInt8} {i : Nat} (h : i < L.length) : (L[i]?).map UInt8.toNat = some (at_ L i) := by
  unfold at_
  rw [List.getD_eq_getElem?_getD, List.getElem?_eq_getElem h]
  rfl
theorem Loc.seg {L L' : List UInt8} {i i' n : Nat} (h : Loc L i L' i' n) : (L'.drop i').take n = (L.drop i).take n := by
  apply List.ext_getElem?
  intro k
  rw [List.getElem?_take, List.getElem?_take]
  split
  · rename_i hk
    rw [List.getElem?_drop, List.getElem?_drop]
    have h1 := at_some (L := L') (i := i' + k) (by have := h.2.1; omega)
    have h2 := at_some (L := L) (i := i + k) (by have := h.1; omega)
    rw [h.2.2 k hk, ← h2] at h1
    rw [List.getElem?_eq_getElem (by have := h.2.1; omega), List.getElem?_eq_getElem (by have := h.1; omega)] at h1 ⊢
    simp only [Option.map_some, Option.some.injEq] at h1 ⊢
    exact UInt8.toNat_inj.1 h1
  · rfl
theorem four_loc {L L' : List UInt8} : ∀ (k a a' n m : Nat), fourAt L k a n = .ok m → Loc L a L' a' k → fourAt L' k a' n = .ok m
  | 0, _, _, _, _, h, _ => h
  | k + 1, a, a', n, m, h, hl => by
    unfold fourAt at h ⊢
    have e := hl.2.2 0 (by omega)
    rw [Nat.add_zero, Nat.add_zero] at e
    rw [if_neg (by have := hl.1; omega)] at h
    rw [if_neg (by have := hl.2.1; omega), e]
    cases hv : hexv (at_ L a) with
    | none => rw [hv] at h; cases h
    | some d =>
      rw [hv] at h
      exact four_loc k (a + 1) (a' + 1) _ m h (hl.sub 1 k (by omega))
theorem num_loc {L L' : List UInt8} {a a' n e : Nat} (h : numV L a = .ok (n, e)) (hl : Loc L a L' a' (e - a)) : numV L' a' = .ok (n, a' + (e - a)) := by
  have hge := num_lt h
  unfold numV at h ⊢
  cases hf : fourAt L 4 a 0 with
  | error m => rw [hf] at h; cases h
  | ok v =>
    rw [hf] at h
    simp only at h
    by_cases c1 : v < 55296 ∨ 57343 < v
    · rw [if_pos c1] at h
      obtain ⟨rfl, rfl⟩ := Prod.mk.inj (Except.ok.inj h)
      rw [four_loc 4 a a' 0 _ hf (by have := hl.sub 0 4 (by omega); simpa using this)]
      simp only
      rw [if_pos c1, show a' + (a + 4 - a) = a' + 4 by omega]
    · rw [if_neg c1] at h
      by_cases c2 : 56320 ≤ v
      · rw [if_pos c2] at h; cases h
      rw [if_neg c2] at h
      by_cases c3 : L.length ≤ a + 4
      · rw [if_pos c3] at h; cases h
      rw [if_neg c3] at h
      by_cases c4 : at_ L (a + 4) ≠ 92
      · rw [if_pos c4] at h; cases h
      rw [if_neg c4] at h
      by_cases c5 : L.length ≤ a + 5
      · rw [if_pos c5] at h; cases h
      rw [if_neg c5] at h
      by_cases c6 : at_ L (a + 5) ≠ 117
      · rw [if_pos c6] at h; cases h
      rw [if_neg c6] at h
      cases hg : fourAt L 4 (a + 6) 0 with
      | error m => rw [hg] at h; cases h
      | ok m =>
        rw [hg] at h
        simp only at h
        by_cases c7 : m < 56320 ∨ 57343 < m
        · rw [if_pos c7] at h; cases h
        rw [if_neg c7] at h
        obtain ⟨rfl, rfl⟩ := Prod.mk.inj (Except.ok.inj h)
        have hb := hl.2.1
        rw [four_loc 4 a a' 0 _ hf (by have := hl.sub 0 4 (by omega); simpa using this)]
        simp only
        rw [if_neg c1, if_neg c2, if_neg (by omega), if_neg (by rw [hl.2.2 4 (by omega)]; exact c4), if_neg (by omega), if_neg (by rw [hl.2.2 5 (by omega)]; exact c6),
          four_loc 4 (a + 6) (a' + 6) 0 _ hg (hl.sub 6 4 (by omega))]
        simp only
        rw [if_neg c7, show a' + (a + 10 - a) = a' + 10 by omega]
theorem esc_loc {L L' : List UInt8} {a a' n e : Nat} (h : escV L a = .ok (n, e)) (hl : Loc L a L' a' (e - a)) : escV L' a' = .ok (n, a' + (e - a)) := by
  have hge := esc_lt h
  have h0 := hl.2.2 0 (by omega)
  rw [Nat.add_zero, Nat.add_zero] at h0
  unfold escV at h ⊢
  rw [if_neg (by have := hl.1; omega)] at h
  rw [if_neg (by have := hl.2.1; omega), h0]
  by_cases c : at_ L a = 117
  · rw [if_pos c] at h ⊢
    have := num_lt h
    rw [num_loc h (by have := hl.sub 1 (e - (a + 1)) (by omega); exact this), show a' + 1 + (e - (a + 1)) = a' + (e - a) by omega]
  · rw [if_neg c] at h ⊢
    cases hm : meanV (at_ L a) with
    | none => rw [hm] at h; cases h
    | some v =>
      rw [hm] at h
      obtain ⟨rfl, rfl⟩ := Prod.mk.inj (Except.ok.inj h)
      rw [show a' + (a + 1 - a) = a' + 1 by omega]
theorem nx_loc {L L' : List UInt8} {i i' n k : Nat} (h : nx (L.drop i) = some (n, k)) (hl : Loc L i L' i' k) : nx (L'.drop i') = some (n, k) := by
  obtain ⟨h1, h2, -⟩ := nx_form h
  have hk : (form n).length = k := by rw [h2, List.length_take, List.length_drop]; have := hl.1; omega
  have := form_nx h1 (l := L'.drop i') (by rw [h2, ← hl.seg]; exact List.take_prefix _ _)
  rw [this, hk]
theorem unq_loc {L L' : List UInt8} : ∀ (d i : Nat), L.length - i = d → ∀ s j, unq L i = .ok (s, j) → ∀ i', Loc L i L' i' (j - i) → unq L' i' = .ok (s, i' + (j - i)) := by
  intro d
  induction d using Nat.strongRecOn with
  | ind d ih =>
    intro i hd s j h i' hl
    have hin := unq_in L _ i rfl s j h
    have h0 := hl.2.2 0 (by omega)
    rw [Nat.add_zero, Nat.add_zero] at h0
    have hb := hl.2.1
    have hp : ∀ P a, i < a → pre P (unq L a) = .ok (s, j) → pre P (unq L' (i' + (a - i))) = .ok (s, i' + (j - i)) := fun P a ha hu => by
      cases hx : unq L a with
      | error m => rw [hx] at hu; cases hu
      | ok r =>
        obtain ⟨s', j'⟩ := r
        rw [hx] at hu
        obtain ⟨rfl, rfl⟩ := Prod.mk.inj (Except.ok.inj hu)
        have h1 := unq_in L _ a rfl s' _ hx
        rw [ih (L.length - a) (by omega) a rfl s' _ hx (i' + (a - i)) (by have := hl.sub (a - i) (j' - a) (by omega); rwa [show i + (a - i) = a by omega] at this)]
        show Except.ok (P ++ s', _) = _
        rw [show i' + (a - i) + (j' - a) = i' + (j' - i) by omega]
    by_cases h34 : at_ L i = 34
    · rw [unq_quote (by omega) h34] at h
      obtain ⟨rfl, rfl⟩ := Prod.mk.inj (Except.ok.inj h)
      rw [unq_quote (by omega) (by omega), show i' + (i + 1 - i) = i' + 1 by omega]
    by_cases h32 : at_ L i < 32
    · rw [unq_low (by omega) h32] at h; cases h
    by_cases h92 : at_ L i = 92
    · rw [unq_esc (by omega) h92] at h
      rw [unq_esc (by omega) (by omega)]
      cases he : escV L (i + 1) with
      | error m => rw [he] at h; cases h
      | ok r =>
        obtain ⟨n, a⟩ := r
        rw [he] at h
        have h1 := esc_lt he
        have h2 : a < j := by
          cases hx : unq L a with
          | error m => simp only at h; rw [hx] at h; cases h
          | ok r =>
            obtain ⟨s', j'⟩ := r
            simp only at h
            rw [hx] at h
            obtain ⟨-, rfl⟩ := Prod.mk.inj (Except.ok.inj h)
            exact (unq_in L _ a rfl s' _ hx).1
        rw [esc_loc he (by have := hl.sub 1 (a - (i + 1)) (by omega); exact this)]
        simp only
        have := hp _ a (by omega) h
        rwa [show i' + (a - i) = i' + 1 + (a - (i + 1)) by omega] at this
    · rw [unq_cp (by omega) h34 (by omega) h92] at h
      rw [unq_cp (by omega) (by omega) (by omega) (by omega)]
      cases he : nx (L.drop i) with
      | none => rw [he] at h; cases h
      | some r =>
        obtain ⟨n, k⟩ := r
        rw [he] at h
        have h1 := nx_lt he
        have h2 : i + k < j := by
          cases hx : unq L (i + k) with
          | error m => simp only at h; rw [hx] at h; cases h
          | ok r =>
            obtain ⟨s', j'⟩ := r
            simp only at h
            rw [hx] at h
            obtain ⟨-, rfl⟩ := Prod.mk.inj (Except.ok.inj h)
            exact (unq_in L _ (i + k) rfl s' _ hx).1
        have hk : Loc L i L' i' k := by have := hl.sub 0 k (by omega); simpa using this
        rw [nx_loc he hk]
        simp only
        rw [hk.seg]
        have := hp _ (i + k) (by omega) h
        rwa [show i' + (i + k - i) = i' + k by omega] at this
theorem cnt_uni {t : ByteArray} {f c : Nat} (h : ∀ k, k < c → isD (gb t (f + k)) = true) (hs : isD (gb t (f + c)) = false) : cnt t f = c := by
  rcases Nat.lt_trichotomy (cnt t f) c with h1 | h1 | h1
  · have := cnt_stop t f
    rw [h _ h1] at this
    cases this
  · exact h1
  · have := (cnt_lt t f c h1).1
    rw [hs] at this
    cases this
theorem val_loc {t u : ByteArray} {f g n : Nat} (h : ∀ k, k < n → gb u (g + k) = gb t (f + k)) : ∀ k, k ≤ n → valN u g k = valN t f k
  | 0, _ => rfl
  | k + 1, hk => by rw [valN, valN, val_loc h k (by omega), h k (by omega)]
theorem scanF_loc {t u : ByteArray} {f g sg : Nat} (hf : f ≤ t.size) (h : (scanF t f sg).2.2 = 0) (hl : Loc t.data.toList f u.data.toList g (cnt t f)) (hd : isD (gb u (g + cnt t f)) = false) (he : isE (gb u (g + cnt t f)) = false) :
    scanF u g sg = ((scanF t f sg).1, ((g + cnt t f : Nat) : Int), 0) := by
  obtain ⟨h1, h2, h3, h4, h5, h6⟩ := scan_ok hf h
  have hk : ∀ k, k < cnt t f → gb u (g + k) = gb t (f + k) := fun k hk => hl.2.2 k hk
  have hc : cnt u g = cnt t f := cnt_uni (fun k hk2 => by rw [hk k hk2]; exact (cnt_lt t f k hk2).1) hd
  have h0 := hk 0 h2
  rw [Nat.add_zero, Nat.add_zero] at h0
  have hsz := hl.2.1
  rw [tlen] at hsz
  have hv := val_loc hk (cnt t f) (Nat.le_refl _)
  rw [h6]
  unfold scanF
  rw [if_neg (by omega), hc, if_neg (by omega), he, if_neg (by decide), h0, if_neg h4, hv, if_neg (by omega)]
theorem scanI_loc {t u : ByteArray} {a b : Nat} (ha : a < t.size) (h : (scanI t a).2.2 = 0) (hl : Loc t.data.toList a u.data.toList b ((scanI t a).2.1.toNat - a)) (hd : isD (gb u (b + ((scanI t a).2.1.toNat - a))) = false) (he : isE (gb u (b + ((scanI t a).2.1.toNat - a))) = false) :
    scanI u b = ((scanI t a).1, ((b + ((scanI t a).2.1.toNat - a) : Nat) : Int), 0) := by
  have hin := scanI_in ha h
  have hz := hl.2.1
  rw [tlen] at hz
  have h0 : gb u b = gb t a := by have := hl.2.2 0 (by omega); rwa [Nat.add_zero, Nat.add_zero] at this
  by_cases c : gb t a = 45
  · have e : scanI t a = scanF t (a + 1) 1 := by rw [scanI, if_neg (by omega), Int.toNat_natCast, if_pos c]
    have e2 : scanI u b = scanF u (b + 1) 1 := by rw [scanI, if_neg (by omega), Int.toNat_natCast, h0, if_pos c]
    rw [e] at h hl hd he hin ⊢
    rw [e2]
    have h6 := (scan_ok (by omega) h).2.2.2.2.2
    have e3 : (scanF t (a + 1) 1).2.1.toNat = a + 1 + cnt t (a + 1) := by rw [h6]; simp only; omega
    rw [e3] at hl hd he ⊢
    have e4 : b + (a + 1 + cnt t (a + 1) - a) = b + 1 + cnt t (a + 1) := by omega
    rw [e4] at hd he ⊢
    exact scanF_loc (by omega) h (by have := hl.sub 1 (cnt t (a + 1)) (by omega); exact this) hd he
  · have e : scanI t a = scanF t a 0 := by rw [scanI, if_neg (by omega), Int.toNat_natCast, if_neg c]
    have e2 : scanI u b = scanF u b 0 := by rw [scanI, if_neg (by omega), Int.toNat_natCast, h0, if_neg c]
    rw [e] at h hl hd he hin ⊢
    rw [e2]
    have h6 := (scan_ok (by omega) h).2.2.2.2.2
    have e3 : (scanF t a 0).2.1.toNat = a + cnt t a := by rw [h6]; simp only; omega
    rw [e3] at hl hd he ⊢
    have e4 : b + (a + cnt t a - a) = b + cnt t a := by omega
    rw [e4] at hd he ⊢
    exact scanF_loc (by omega) h (by have := hl.sub 0 (cnt t a) (by omega); simpa using this) hd he
theorem lets_loc {t u : ByteArray} {a b : Nat} {l : List UInt8} (h : lets t a l = true) (hl : Loc t.data.toList a u.data.toList b l.length) : lets u b l = true := by
  unfold lets at h ⊢
  rw [hl.seg]
  exact h
/-- A word that stands in one text stands in another one. -/
theorem word_loc {t u : ByteArray} {a b : Nat} (ha : a ≤ t.size) (h : (wordT t a).2 = 0) (hk : (wordT t a).1.kind ≠ 12) (hl : Loc t.data.toList a u.data.toList b ((wordT t a).1.til - a)) (hd : isD (gb u (b + ((wordT t a).1.til - a))) = false) (he : isE (gb u (b + ((wordT t a).1.til - a))) = false) :
    wordT u b = (⟨(wordT t a).1.kind, b, b + ((wordT t a).1.til - a), (wordT t a).1.n, (wordT t a).1.s⟩, 0) := by
  have hz := hl.2.1
  rw [tlen] at hz
  have hin := (word_in ha).2.1 h hk
  by_cases h0 : a = t.size
  · rw [word_end h0] at hk; exact absurd rfl hk
  have hlt : a < t.size := by omega
  have hbt : b < u.size := by omega
  have g0 : gb u b = gb t a := by have := hl.2.2 0 (by omega); rwa [Nat.add_zero, Nat.add_zero] at this
  by_cases h1 : signK (gb t a) ≠ 0
  · rw [word_sign hlt h1, word_sign hbt (by rw [g0]; exact h1), g0]
    simp
  have h1 : signK (gb t a) = 0 := by omega
  have h1u : signK (gb u b) = 0 := by rw [g0]; exact h1
  by_cases h2 : (wordK t a).1 ≠ 0
  · rw [word_lets hlt h1 h2] at hl ⊢
    simp only [Nat.add_sub_cancel_left] at hl ⊢
    have hw : wordK u b = wordK t a := by
      by_cases c1 : gb t a = 116
      · rw [wordK_t c1] at h2 hl ⊢
        rw [wordK_t (by rw [g0]; exact c1)]
        by_cases d : lets t a trueL = true
        · rw [if_pos d] at hl ⊢; rw [if_pos (lets_loc d hl)]
        · rw [if_neg d] at h2; exact absurd rfl h2
      by_cases c2 : gb t a = 102
      · rw [wordK_f c2] at h2 hl ⊢
        rw [wordK_f (by rw [g0]; exact c2)]
        by_cases d : lets t a falseL = true
        · rw [if_pos d] at hl ⊢; rw [if_pos (lets_loc d hl)]
        · rw [if_neg d] at h2; exact absurd rfl h2
      by_cases c3 : gb t a = 110
      · rw [wordK_n c3] at h2 hl ⊢
        rw [wordK_n (by rw [g0]; exact c3)]
        by_cases d : lets t a nullL = true
        · rw [if_pos d] at hl ⊢; rw [if_pos (lets_loc d hl)]
        · rw [if_neg d] at h2; exact absurd rfl h2
      · rw [wordK_no c1 c2 c3] at h2; exact absurd rfl h2
    rw [word_lets hbt h1u (by rw [hw]; exact h2), hw]
  have h2 : (wordK t a).1 = 0 := by omega
  have hno : gb t a ≠ 116 → gb t a ≠ 102 → gb t a ≠ 110 → (wordK u b).1 = 0 := fun c1 c2 c3 => by rw [wordK_no (by rw [g0]; exact c1) (by rw [g0]; exact c2) (by rw [g0]; exact c3)]
  by_cases h3 : gb t a = 34
  · rw [word_text hlt h3 h2] at h hl hin ⊢
    rw [word_text hbt (by rw [g0]; exact h3) (hno (by omega) (by omega) (by omega))]
    cases hu : unq t.data.toList (a + 1) with
    | error m =>
      rw [hu] at h
      exact absurd (show m = 0 from h) (fun h => lunq_no0 _ _ _ rfl (by rw [hu, h]))
    | ok r =>
      obtain ⟨s, j⟩ := r
      rw [hu] at hl hin
      simp only at hl hin ⊢
      rw [unq_loc _ (a + 1) rfl s j hu (b + 1) (by have := hl.sub 1 (j - (a + 1)) (by omega); exact this)]
      simp only
      rw [show b + 1 + (j - (a + 1)) = b + (j - a) by omega]
  by_cases h4 : gb t a = 45 ∨ isD (gb t a) = true
  · rw [word_num hlt h1 h2 h3 h4] at h hl hd he ⊢
    have h4' : gb t a ≠ 116 ∧ gb t a ≠ 102 ∧ gb t a ≠ 110 := by
      rcases h4 with h | h
      · omega
      · unfold isD at h
        simp only [Bool.and_eq_true, decide_eq_true_eq] at h
        omega
    rw [word_num hbt h1u (hno h4'.1 h4'.2.1 h4'.2.2) (by rw [g0]; exact h3) (by rw [g0]; exact h4)]
    by_cases h5 : (scanI t a).2.2 = 0
    · rw [if_pos h5] at hl hd he ⊢
      rw [scanI_loc hlt h5 hl hd he]
      simp
      omega
    · rw [if_neg h5] at h
      have := scanI_nn t a
      simp only at h
      omega
  · rw [word_no hlt h1 h2 h3 h4] at h
    cases h
end Go.Proofs.YtndifilhfiooaaaDoor
namespace Go.Proofs.YtndifilhfiooaaaDoor
set_option maxRecDepth 20000
set_option linter.unusedSimpArgs false
set_option linter.unusedVariables false
open Go.RowKit Go.Lib Go.Shelf
theorem at_getE {L : List UInt8} {i : Nat} {c : UInt8} (h : L[i]? = some c) : at_ L i = c.toNat := by
  unfold at_
  rw [List.getD_eq_getElem?_getD, h]
  rfl
/-- Where a stretch of another text stands. -/
theorem loc_of {L U R : List UInt8} {f n b : Nat} (hf : f + n ≤ L.length) (h : U.drop b = (L.drop f).take n ++ R) (hn : 0 < n) : Loc L f U b n := by
  have hl := congrArg List.length h
  rw [List.length_drop, List.length_append, List.length_take, List.length_drop] at hl
  refine ⟨hf, by omega, fun k hk => ?_⟩
  have h1 : U[b + k]? = L[f + k]? := by
    have h2 := congrArg (fun l : List UInt8 => l[k]?) h
    simp only [List.getElem?_drop] at h2
    rw [h2, List.getElem?_append_left (by rw [List.length_take, List.length_drop]; omega), List.getElem?_take, if_pos hk, List.getElem?_drop]
  have h3 : (L[f + k]?).isSome = true := by rw [List.getElem?_eq_getElem (by omega)]; rfl
  obtain ⟨c, hc⟩ := Option.isSome_iff_exists.1 h3
  rw [at_getE (h1.trans hc), at_getE hc]
theorem gb_drop1 {u : ByteArray} {b : Nat} {c : UInt8} {R : List UInt8} (h : u.data.toList.drop b = c :: R) : gb u b = c.toNat ∧ b < u.size := by
  have h1 := congrArg (fun l : List UInt8 => l[0]?) h
  simp only [List.getElem?_drop, Nat.add_zero, List.getElem?_cons_zero] at h1
  refine ⟨at_getE h1, ?_⟩
  have := (List.getElem?_eq_some_iff.1 h1).1
  rwa [tlen] at this
theorem blk_skip (u : ByteArray) : ∀ (B R : List UInt8) (b : Nat), (∀ c ∈ B, isB c.toNat = true) → u.data.toList.drop b = B ++ R → blk u b = blk u (b + B.length) ∧ u.data.toList.drop (b + B.length) = R
  | [], R, b, _, h => ⟨rfl, h⟩
  | c :: B, R, b, hB, h => by
    obtain ⟨h1, h2⟩ := gb_drop1 h
    have h3 : u.data.toList.drop (b + 1) = B ++ R := by
      rw [← List.drop_drop, h]
      rfl
    obtain ⟨h4, h5⟩ := blk_skip u B R (b + 1) (fun c hc => hB c (List.mem_cons_of_mem _ hc)) h3
    have e : b + (c :: B).length = b + 1 + B.length := by rw [List.length_cons]; omega
    rw [e]
    exact ⟨(blk_more h2 (by rw [h1]; exact hB c (List.mem_cons_self ..))).trans h4, h5⟩
/-- The tokens' texts, with blanks in front of each. -/
def txt (t : ByteArray) (bl : Nat → List UInt8) : Nat → List Tok → List UInt8
  | _, [] => []
  | i, x :: r => 32 :: (bl i ++ ((t.data.toList.drop x.fr).take (x.til - x.fr) ++ txt t bl (i + 1) r))
theorem txt_app (t : ByteArray) (bl : Nat → List UInt8) : ∀ (A B : List Tok) (i : Nat), txt t bl i (A ++ B) = txt t bl i A ++ txt t bl (i + A.length) B
  | [], B, i => rfl
  | x :: A, B, i => by
    have h := txt_app t bl A B (i + 1)
    have e : i + (x :: A).length = i + 1 + A.length := by rw [List.length_cons]; omega
    rw [e, List.cons_append, txt, txt, h]
    simp
def keyT (y : Tok × Nat) : Nat × Int × List UInt8 := (y.1.kind, y.1.n, y.1.s)
/-- A list of words that are all right is the end, or a word and further ones. -/
theorem els_cases {t : ByteArray} {a : Nat} (ha : a ≤ t.size) (h : ∀ y ∈ els t a, y.2 = 0) : (blk t a = t.size ∧ els t a = [(⟨12, t.size, t.size, 0, []⟩, 0)]) ∨ ∃ X, wordT t (blk t a) = (X, 0) ∧ X.kind ≠ 12 ∧ X.fr = blk t a ∧ X.fr < X.til ∧ X.til ≤ t.size ∧ els t a = (X, 0) :: els t X.til := by
  obtain ⟨X, E, hX⟩ : ∃ X E, wordT t (blk t a) = (X, E) := ⟨_, _, rfl⟩
  obtain ⟨b1, b2, -, -⟩ := blk_ge t _ a rfl
  have hE : E = 0 := by
    by_cases hE : E = 0
    · exact hE
    · have e := els_last (.inl (show (wordT t (blk t a)).2 ≠ 0 by rw [hX]; exact hE))
      have := h _ (by rw [e]; exact List.mem_cons_self ..)
      rw [hX] at this
      exact this
  subst hE
  obtain ⟨w1, w2, w3, -⟩ := word_in (b2 ha)
  rw [hX] at w1 w2 w3
  by_cases hK : X.kind = 12
  · obtain ⟨h1, h2⟩ := w3 rfl hK
    refine .inl ⟨h1, ?_⟩
    rw [els_last (.inr (by rw [hX]; exact hK)), hX, h2, h1]
  · obtain ⟨h1, h2, h3⟩ := els_more ha (by rw [hX]) (by rw [hX]; exact hK)
    rw [hX] at h1 h2 h3
    obtain ⟨h4, h5⟩ := w2 rfl hK
    exact .inr ⟨X, hX, hK, w1, by rw [w1]; exact h4, h5, h1⟩
theorem txt_first (t : ByteArray) (bl : Nat → List UInt8) (i : Nat) (xs : List Tok) : ∃ c R, txt t bl i xs ++ [10] = c :: R ∧ isD (c : UInt8).toNat = false ∧ isE c.toNat = false := by
  cases xs with
  | nil => exact ⟨10, [], rfl, by decide, by decide⟩
  | cons x r => exact ⟨32, _, rfl, by decide, by decide⟩
theorem els_same (t : ByteArray) (bl : Nat → List UInt8) (hbl : ∀ i, ∀ c ∈ bl i, isB c.toNat = true) (u : ByteArray) : ∀ (d a : Nat), t.size - a = d → a ≤ t.size → (∀ y ∈ els t a, y.2 = 0) → ∀ i b, b ≤ u.size → u.data.toList.drop b = txt t bl i ((els t a).map Prod.fst) ++ [10] → (∀ y ∈ els u b, y.2 = 0) ∧ (els u b).map keyT = (els t a).map keyT := by
  intro d
  induction d using Nat.strongRecOn with
  | ind d ih =>
    intro a hd ha hok i b hb hu
    have h32 : ∀ c ∈ (32 :: bl i : List UInt8), isB c.toNat = true := fun c hc => by
      rcases List.mem_cons.1 hc with rfl | hc
      · decide
      · exact hbl i c hc
    rcases els_cases ha hok with ⟨h1, h2⟩ | ⟨X, hX, hK, hf, hlt, hle, h3⟩
    · rw [h2] at hu ⊢
      have hu2 : u.data.toList.drop b = (32 :: bl i ++ [10]) ++ [] := by
        rw [hu]
        simp [txt]
      obtain ⟨e1, e2⟩ := blk_skip u _ _ b (fun c hc => by
        rcases List.mem_append.1 hc with hc | hc
        · exact h32 c hc
        · rw [List.mem_singleton.1 hc]; decide) hu2
      have hsz : b + (32 :: bl i ++ [10] : List UInt8).length = u.size := by
        have := congrArg List.length hu2
        rw [List.length_drop, tlen, List.append_nil] at this
        omega
      rw [hsz] at e1
      have e3 : blk u u.size = u.size := blk_stop (by omega)
      have e4 : els u b = [(⟨12, u.size, u.size, 0, []⟩, 0)] := by
        rw [els_last (.inr (by rw [e1, e3, word_end rfl])), e1, e3, word_end rfl]
      rw [e4]
      exact ⟨fun y hy => by rw [List.mem_singleton.1 hy], rfl⟩
    · rw [h3] at hu hok ⊢
      have hu2 : u.data.toList.drop b = (32 :: bl i) ++ ((t.data.toList.drop X.fr).take (X.til - X.fr) ++ (txt t bl (i + 1) ((els t X.til).map Prod.fst) ++ [10])) := by
        rw [hu]
        simp [txt]
      obtain ⟨e1, e2⟩ := blk_skip u _ _ b h32 hu2
      obtain ⟨b', hb'⟩ : ∃ b', b + (32 :: bl i : List UInt8).length = b' := ⟨_, rfl⟩
      rw [hb'] at e1 e2
      have hloc : Loc t.data.toList X.fr u.data.toList b' (X.til - X.fr) := loc_of (by rw [tlen]; omega) e2 (by omega)
      have hb2 := hloc.2.1
      rw [tlen] at hb2
      have g0 : gb u b' = gb t X.fr := by have := hloc.2.2 0 (by omega); rwa [Nat.add_zero, Nat.add_zero] at this
      have hnb : isB (gb t X.fr) = false := by
        rw [hf]
        exact (blk_ge t _ a rfl).2.2.2 (by rw [← hf]; omega)
      have e3 : blk u b' = b' := blk_stop (by rw [g0, hnb]; simp)
      have e5 : u.data.toList.drop (b' + (X.til - X.fr)) = txt t bl (i + 1) ((els t X.til).map Prod.fst) ++ [10] := by
        have hlen : ((t.data.toList.drop X.fr).take (X.til - X.fr)).length = X.til - X.fr := by rw [List.length_take, List.length_drop, tlen]; omega
        rw [← List.drop_drop, e2]
        have := List.drop_left (l₁ := (t.data.toList.drop X.fr).take (X.til - X.fr)) (l₂ := txt t bl (i + 1) ((els t X.til).map Prod.fst) ++ [10])
        rwa [hlen] at this
      obtain ⟨c, R, hc, hd1, hd2⟩ := txt_first t bl (i + 1) ((els t X.til).map Prod.fst)
      obtain ⟨g1, g2⟩ := gb_drop1 (e5.trans hc)
      have hw := word_loc (t := t) (u := u) (a := X.fr) (b := b') (by omega) (by rw [hf, hX]) (by rw [hf, hX]; exact hK)
        (by rw [hf, hX, ← hf]; exact hloc) (by rw [hf, hX, ← hf, g1]; exact hd1) (by rw [hf, hX, ← hf, g1]; exact hd2)
      rw [hf, hX, ← hf] at hw
      simp only at hw
      have hmore := (els_more (t := u) (a := b) hb (by rw [e1, e3, hw]) (by rw [e1, e3, hw]; exact hK)).1
      rw [e1, e3, hw] at hmore
      simp only at hmore
      obtain ⟨k1, k2⟩ := ih (t.size - X.til) (by have := (blk_ge t _ a rfl).1; omega) X.til rfl hle (fun y hy => hok y (List.mem_cons_of_mem _ hy)) (i + 1) (b' + (X.til - X.fr)) (by omega) e5
      rw [hmore]
      refine ⟨fun y hy => ?_, ?_⟩
      · rcases List.mem_cons.1 hy with rfl | hy
        · rfl
        · exact k1 y hy
      · rw [List.map_cons, List.map_cons, k2]
        rfl
end Go.Proofs.YtndifilhfiooaaaDoor
namespace Go.Proofs.YtndifilhfiooaaaDoor
set_option maxRecDepth 20000
set_option linter.unusedSimpArgs false
set_option linter.unusedVariables false
open Go.RowKit Go.Lib Go.Shelf Go.Sort
attribute [local go_sem] Oper.semAt_some
end Go.Proofs.YtndifilhfiooaaaDoor
namespace Go.Proofs.YtndifilhfiooaaaDoor
set_option maxRecDepth 20000
set_option linter.unusedSimpArgs false
set_option linter.unusedVariables false
open Go.RowKit Go.Lib Go.Shelf Go.Sort
attribute [local go_sem] Oper.semAt_some
theorem tkV_at : ∀ (xs : List Tok) (k : Nat) (X : Tok), xs[k]? = some X → ((tkV xs).drop (k * 5)).take 5 = (tokA X).toList
  | [], k, X, h => by simp at h
  | x :: xs, 0, X, h => by
    obtain rfl : x = X := by simpa using h
    unfold tkV
    rw [List.flatMap_cons, Nat.zero_mul, List.drop_zero]
    exact List.take_left' rfl
  | x :: xs, k + 1, X, h => by
    have h1 := tkV_at xs k X (by simpa using h)
    unfold tkV at h1 ⊢
    rw [List.flatMap_cons, show (k + 1) * 5 = (tokA x).toList.length + k * 5 by show (k + 1) * 5 = 5 + k * 5; omega, ← List.drop_drop, List.drop_left]
    exact h1
/-- A list's token lies in the row. -/
theorem row_tok {cur : Array Value} {xs : List Tok} {n k : Nat} {X : Tok} (h : cur.toList.take (n * 5) = tkV xs) (hn : xs.length = n) (hk : xs[k]? = some X) : (cur.toList.drop (5 * k)).take 5 = (tokA X).toList := by
  have hlt : k < xs.length := (List.getElem?_eq_some_iff.1 hk).1
  rw [← tkV_at xs k X hk, ← h, List.drop_take, List.take_take, Nat.min_eq_left (by omega), Nat.mul_comm]
theorem ix_Tok (b n c k : Nat) (hk : k < n) (W : World) : (Instr.indexAt SlT (.slice (some ⟨b, 0, none⟩) n c) (.int .i64 (k : Int))).run Tryd.prog W = .ok (.pointer (some ⟨b, 5 * k, none⟩)) W := by
  have h1 : (k : Int) < (n : Int) := by omega
  have h2 : (k : Int).toNat = k := by omega
  go_simp
end Go.Proofs.YtndifilhfiooaaaDoor
namespace Go.Proofs.YtndifilhfiooaaaDoor
set_option maxRecDepth 20000
set_option linter.unusedSimpArgs false
set_option linter.unusedVariables false
open Go.RowKit Go.Lib Go.Shelf Go.Sort
attribute [local go_sem] Oper.semAt_some
end Go.Proofs.YtndifilhfiooaaaDoor
namespace Go.Proofs.YtndifilhfiooaaaDoor
set_option maxRecDepth 20000
set_option linter.unusedSimpArgs false
set_option linter.unusedVariables false
open Go.RowKit Go.Lib Go.Shelf Go.Sort
attribute [local go_sem] Oper.semAt_some
theorem owns_form {w : World} {D n : Nat} {v : Value} {xs : List Value} (h : w.ownsRow D TokT 5 v n xs) : ∃ a c, v = .slice a n c := by
  by_cases hn : 0 < n
  · obtain ⟨g, cap, hv, -⟩ := owns_slice h hn
    exact ⟨_, _, hv⟩
  · have h0 : n = 0 := by omega
    obtain ⟨-, h⟩ := h
    rcases h with h | ⟨g, cap, cur, hv, -⟩
    · refine ⟨none, 0, ?_⟩
      rw [h0]
      first | exact h.1 | exact h.2
    · exact ⟨_, _, hv⟩
end Go.Proofs.YtndifilhfiooaaaDoor
namespace Go.Proofs.YtndifilhfiooaaaDoor
set_option maxRecDepth 20000
set_option linter.unusedSimpArgs false
set_option linter.unusedVariables false
open Go.RowKit Go.Lib Go.Shelf Go.Sort
attribute [local go_sem] Oper.semAt_some
def bch (k : Nat) : UInt8 := [9, 10, 13, 32].getD k 32
def blZ (zs : List Int) (lm i : Nat) : List UInt8 := if i < lm then [bch ((zs.getD i 0).toNat % 4)] else []
theorem bch_blank (k : Nat) (h : k < 4) : isB (bch k).toNat = true :=
  match k, h with
  | 0, _ => rfl
  | 1, _ => rfl
  | 2, _ => rfl
  | 3, _ => rfl
theorem blZ_blank (zs : List Int) (lm i : Nat) : ∀ c ∈ blZ zs lm i, isB c.toNat = true := fun c hc => by
  unfold blZ at hc
  split at hc
  · rw [List.mem_singleton.1 hc]
    exact bch_blank _ (Nat.mod_lt _ (by decide))
  · cases hc
theorem bch_ext (k : Nat) (h : k < 4) : (⟨#[9, 10, 13, 32]⟩ : ByteArray).extract k (k + 1) = ⟨#[bch k]⟩ :=
  match k, h with
  | 0, _ => by decide
  | 1, _ => by decide
  | 2, _ => by decide
  | 3, _ => by decide
theorem outT_all : ∀ L : List (Tok × Nat), (outT L).2.2 = 0 → ∀ y ∈ L, y.2 = 0
  | [], _, y, hy => by cases hy
  | (x, m) :: L, h, y, hy => by
    unfold outT at h
    by_cases hm : m = 0
    · rw [if_neg (fun h => h hm)] at h
      rcases List.mem_cons.1 hy with rfl | hy
      · exact hm
      · exact outT_all L h y hy
    · rw [if_pos hm] at h
      exact absurd h hm
theorem els_head {t : ByteArray} {a : Nat} (ha : a ≤ t.size) (h : ∀ y ∈ els t a, y.2 = 0) : ∃ x rest, els t a = (x, 0) :: rest ∧ x.fr = blk t a ∧ x.fr ≤ x.til ∧ x.til ≤ t.size ∧ a ≤ x.fr ∧ ((rest = [] ∧ x.til = t.size) ∨ (rest ≠ [] ∧ rest = els t x.til)) := by
  have hb := (blk_ge t _ a rfl).1
  rcases els_cases ha h with ⟨h1, h2⟩ | ⟨X, hX, hK, hf, hlt, hle, h3⟩
  · exact ⟨_, _, h2, h1.symm, Nat.le_refl _, Nat.le_refl _, by show a ≤ t.size; exact ha, .inl ⟨rfl, rfl⟩⟩
  · refine ⟨X, _, h3, hf, by omega, hle, by omega, .inr ⟨?_, rfl⟩⟩
    rw [els]
    split <;> simp
theorem cat_str (A B : ByteArray) : (A ++ B).data.toList = A.data.toList ++ B.data.toList := by
  rw [ByteArray.data_append, Array.toList_append]
theorem cat_size (A B : ByteArray) : (A ++ B).size = A.size + B.size := by
  rw [Lib.size_eq, Lib.size_eq, Lib.size_eq, cat_str, List.length_append]
theorem fl_Tok2 (b : Nat) (W : World) : (Instr.fieldAt TokT (.pointer (some ⟨b, 0, none⟩)) 2).run Tryd.prog W = .ok (.pointer (some ⟨b, 2, none⟩)) W := by kernel_rfl
theorem row_cell {cur : Array Value} {k j : Nat} {X : Tok} {v : Value} (h : (cur.toList.drop (5 * k)).take 5 = (tokA X).toList) (hj : j < 5) (hv : (tokA X)[j]? = some v) : cur[5 * k + j]? = some v := by
  have h1 := congrArg (fun l : List Value => l[j]?) h
  simp only [List.getElem?_take, List.getElem?_drop] at h1
  rw [if_pos hj, Array.getElem?_toList, Array.getElem?_toList, hv] at h1
  exact h1
theorem wf8 {n : Int} (h : (Lit.int .u8 n).wf = true) : 0 ≤ n ∧ n < 256 := by
  simp [Lit.wf] at h
  have e1 : IntKind.u8.min = 0 := by decide
  have e2 : IntKind.u8.max = 255 := by decide
  omega
set_option maxRecDepth 100000 in
set_option maxHeartbeats 16000000 in
theorem lexBlanks_w (t : ByteArray) (ma : Option Addr) (lm cm : Nat) (zs : List Int) (w : World) (hZ : IsRow .u8 w ma lm cm zs) (hT : Tabs w) : Calls Tryd.prog 5 #[.string t, .slice ma lm cm] w fun e w' => e = .returned (.bool true) ∧ Below w.heap.size w w' := by
  have h2 := tabs_size hT
  have KL := Lib.hid (fun w hT => xlives_any w hT)
  by_cases hs : 300 < t.size
  · have p1 : (300 : Int) < (t.size : Int) := by omega
    go_enter Tryd.func5, Tryd.ntmps5
    go_wp2_with fail
    refine (KL.out w hT).mono ?_
    rintro e w1 ⟨rfl, hb1⟩
    go_wp2_with fail
    go_ret
    exact ⟨rfl, hb1⟩
  have p1 : ¬ (300 : Int) < (t.size : Int) := by omega
  have KT := Lib.hid (fun w hT => toks_any t (by omega) w hT)
  have KU := Lib.hid (fun u (hu : u.size ≤ 100000) w hT => toks_any u hu w hT)
  obtain ⟨LL, P, E, hO⟩ : ∃ LL P E, outT (els t 0) = (LL, P, E) := ⟨_, _, _, rfl⟩
  have hall := outT_all (els t 0)
  rw [hO] at hall
  rw [hO] at KT
  simp only at hall KT
  have HOut := Lib.hid hO
  clear hO
  by_cases hE : E = 0
  rotate_left
  · have q0 : ((E : Int) == 0) = false := by simp; omega
    have q1 : ¬ (E : Int) = 0 := by omega
    go_enter Tryd.func5, Tryd.ntmps5
    go_wp2_with fail
    refine (KT.out w hT).mono ?_
    rintro e w1 ⟨v, rfl, ho, hb1⟩
    have hT1 := tabs_low h2 hT hb1
    clear ho
    go_wp2_with fail
    refine (KL.out w1 hT1).mono ?_
    rintro e w2 ⟨rfl, hb2⟩
    go_wp2_with fail
    go_ret
    exact ⟨rfl, hb1.trans (hb2.mono hb1.size)⟩
  have hok := hall hE
  obtain ⟨r1, r2⟩ := resT_ok hok
  have hLL : LL = (els t 0).map Prod.fst := by have := HOut.out; rw [r1] at this; exact (Prod.mk.inj this).1.symm
  rw [r2, ← hLL] at KT
  have hpos : 0 < LL.length := by
    obtain ⟨x, rest, h3, -⟩ := els_head (t := t) (a := 0) (by omega) hok
    rw [hLL, h3]
    simp
  obtain ⟨n, hn⟩ : ∃ n, LL.length = n := ⟨_, rfl⟩
  subst hE
  have hm0 : ((0 : Nat) : Int) = 0 := rfl
  rw [hm0, hn] at KT
  by_cases h100 : 100 < n
  · have q2 : (100 : Int) < (n : Int) := by omega
    go_enter Tryd.func5, Tryd.ntmps5
    go_wp2_with fail
    refine (KT.out w hT).mono ?_
    rintro e w1 ⟨v, rfl, ho, hb1⟩
    have hT1 := tabs_low h2 hT hb1
    obtain ⟨a1, c1, rfl⟩ := owns_form ho
    clear ho
    go_wp2_with fail
    refine (KL.out w1 hT1).mono ?_
    rintro e w2 ⟨rfl, hb2⟩
    go_wp2_with fail
    go_ret
    exact ⟨rfl, hb1.trans (hb2.mono hb1.size)⟩
  have q2 : ¬ (100 : Int) < (n : Int) := by omega
  have q3 : ((n : Int) == 0) = false := by simp; omega
  have q4 : ¬ (n : Int) = 0 := by omega
  go_enter Tryd.func5, Tryd.ntmps5
  go_wp2_with fail
  refine (KT.out w hT).mono ?_
  rintro e w1 ⟨v, rfl, ho, hb1⟩
  have hT1 := tabs_low h2 hT hb1
  obtain ⟨g, cap, rfl, -, hg, cur, hcur, htk⟩ := owns_slice ho (by omega)
  have HN := Lib.hid (show LL.length = n ∧ 0 < n ∧ LL = (els t 0).map Prod.fst from ⟨hn, by omega, hLL⟩)
  have HOK := Lib.hid hok
  clear ho hall r1 r2 hLL hpos hn KT hok hm0
  go_wp2_with fail
  -- THE LOOP
  have hn100 : n ≤ 100 := by omega
  go_loopw [9, 10, 44] (fun sv av iv wr => ∃ (pre suf : List (Tok × Nat)) (a : Nat) (s : ByteArray), sv = .string s ∧ av = .int .i64 (a : Int) ∧ iv = .int .i64 (pre.length : Int) ∧ els t 0 = pre ++ suf ∧ ((suf = [] ∧ a = t.size) ∨ (suf ≠ [] ∧ suf = els t a)) ∧ a ≤ t.size ∧ s.data.toList = txt t (blZ zs lm) 0 (pre.map Prod.fst) ∧ s.size ≤ 2 * pre.length + a ∧ Below w1.heap.size w1 wr)
    (fun _ _ iv _ => n - (Go.RowKit.intOf iv).toNat)
  case atStart => exact ⟨[], els t 0, 0, ⟨#[]⟩, rfl, rfl, rfl, rfl, .inr ⟨by rw [els]; split <;> simp, rfl⟩, by omega, rfl, by decide, Below.refl _ _⟩
  case round =>
    obtain ⟨pre, suf, a, s, rfl, rfl, rfl, hx, hsuf, ha, hs2, hsz, hbw⟩ := hrel
    have hlen : pre.length + suf.length = n := by
      obtain ⟨h1, h3, h4⟩ := HN.out
      rw [← h1, h4, List.length_map, hx, List.length_append]
    rcases hsuf with ⟨rfl, rfl⟩ | ⟨hne, hse⟩
    · have hpn : pre.length = n := by simpa using hlen
      have q5 : ¬ (pre.length : Int) < (n : Int) := by omega
      have h4 : LL = (els t 0).map Prod.fst := HN.out.2.2
      rw [List.append_nil] at hx
      have hs3 : s.data.toList = txt t (blZ zs lm) 0 ((els t 0).map Prod.fst) := by rw [hs2, hx]
      obtain ⟨u, hu⟩ : ∃ u : ByteArray, s ++ ⟨#[10]⟩ = u := ⟨_, rfl⟩
      have hud : u.data.toList = txt t (blZ zs lm) 0 ((els t 0).map Prod.fst) ++ [10] := by rw [← hu, cat_str, hs3]
      have huz : u.size = s.size + 1 := by rw [← hu, cat_size]; rfl
      have hsn : s.size ≤ 600 := by omega
      obtain ⟨k1, k2⟩ := els_same t (blZ zs lm) (blZ_blank zs lm) u _ 0 rfl (by omega) HOK.out 0 0 (by omega) (by rw [List.drop_zero]; exact hud)
      obtain ⟨r1, r2⟩ := resT_ok k1
      obtain ⟨LU, hLU⟩ : ∃ LU, (els u 0).map Prod.fst = LU := ⟨_, rfl⟩
      have hkey : LU.map (fun x => (x.kind, x.n, x.s)) = LL.map (fun x => (x.kind, x.n, x.s)) := by
        rw [← hLU, h4, List.map_map, List.map_map]
        exact k2
      have hnU : LU.length = n := by
        have := congrArg List.length hkey
        rw [List.length_map, List.length_map, HN.out.1] at this
        exact this
      have hTr := tabs_low (tabs_size hT1) hT1 hbw
      have KU2 := KU.out u (by omega) wr hTr
      rw [r1, r2, hLU, hnU] at KU2
      simp only at KU2
      have hm0 : ((0 : Nat) : Int) = 0 := rfl
      rw [hm0] at KU2
      have ADX : ∀ W, (binOp .add 9 (.string s) (.string ⟨#[10]⟩)).run Tryd.prog W = .ok (.string u) W := fun W => by
        have h9 := add_str (P := Tryd.prog) (ty := 9) (S := s) (T := ⟨#[10]⟩) (.tmp 0) (.tmp 0) W (by show s.size + 1 ≤ _; omega)
        rw [hu] at h9
        simpa [eqGuard] using h9
      have hs1z : s.size + 1 ≤ 9223372036854775807 := by omega
      have hs1y : s.size ≤ 9223372036854775806 := by omega
      have bsz : (⟨#[10]⟩ : ByteArray).size = 1 := rfl
      have KU3 := Lib.hid KU2
      have HKEY := Lib.hid (show _ ∧ _ ∧ _ from ⟨hkey, hnU, hbw⟩)
      have HTK := Lib.hid (show _ ∧ _ from ⟨htk, hcur⟩)
      clear KU2 hkey hnU hLU r1 r2 k1 k2 hud huz hsn hs3 hs2 hsz h4 hx hlen hpn hm0 hbw htk hcur
      go_upto_region 23 with fail
      go_wp2_with fail
      refine KU3.out.mono ?_
      rintro e V2 ⟨v2, rfl, ho2, hb2⟩
      obtain ⟨hkey, hnU, hbw⟩ := HKEY.out
      obtain ⟨htk, hcur⟩ := HTK.out
      obtain ⟨g2, cap2, rfl, -, hg2, cur2, hcur2, htk2⟩ := owns_slice ho2 (by omega)
      have hbV := hbw.trans (hb2.mono hbw.size)
      have hgV := (hbV.block g hg).trans hcur
      have hgl := (Array.getElem?_eq_some_iff.1 hgV).1
      have hT2 := tabs_low (tabs_size hTr) hTr hb2
      have HKEY2 := Lib.hid (show LU.map (fun x => (x.kind, x.n, x.s)) = LL.map (fun x => (x.kind, x.n, x.s)) ∧ LU.length = n ∧ Below w1.heap.size w1 V2 ∧ cur2.toList.take (n * 5) = tkV LU ∧ cur.toList.take (n * 5) = tkV LL from ⟨hkey, hnU, hbV, htk2, htk⟩)
      clear ADX hs1z hs1y bsz hkey hnU hbw htk hcur htk2 ho2 KU3 HKEY HTK hu
      go_wp2_with fail
      go_loopw [134] (fun p wr => ∃ k : Nat, p = .int .i64 (k : Int) ∧ k ≤ n ∧ Below V2.heap.size V2 wr) (fun p _ => n - (Go.RowKit.intOf p).toNat)
      case atStart => exact ⟨0, rfl, by omega, Below.refl _ _⟩
      case round =>
        obtain ⟨k, rfl, hk, hbk⟩ := hrel
        by_cases hkn : k < n
        · have q9 : (k : Int) < (n : Int) := by omega
          obtain ⟨hkey, hnU, hbV, htk2, htk⟩ := HKEY2.out
          obtain ⟨X, hX⟩ : ∃ X, LL[k]? = some X := ⟨_, List.getElem?_eq_getElem (by have := HN.out.1; omega)⟩
          obtain ⟨Y, hY⟩ : ∃ Y, LU[k]? = some Y := ⟨_, List.getElem?_eq_getElem (by omega)⟩
          have hxy := congrArg (fun l : List (Nat × Int × List UInt8) => l[k]?) hkey
          simp only [List.getElem?_map, hX, hY, Option.map_some, Option.some.injEq, Prod.mk.injEq] at hxy
          obtain ⟨e1, e2, e3⟩ := hxy
          have hrt2 := row_tok htk2 hnU hY
          have hrt := row_tok htk HN.out.1 hX
          have hg2V := (hbk.block g2 hg2).trans hcur2
          have hgv := (hbk.block g hgl).trans hgV
          have hgvl := (Array.getElem?_eq_some_iff.1 hgv).1
          have i1 : IntKind.i64.wrap ((k : Int) + 1) = (k : Int) + 1 := IntWalk.i64_in _ (by omega)
          have hM0 := Mem.start wr
          clear hX hY hkey hnU hbV htk2 htk
          go_upto_region 28 with fail
          refine wp_region_lit ?_
          refine wl_pure (v := .int .i64 (k : Int)) (fun W => rfl) rfl ?_
          simp only [nm0, nm1, nm2, nm3]
          refine wl_pure (v := .pointer (some ⟨g2, 5 * k, none⟩)) (fun W => run_index_of rfl rfl rfl (ix_Tok g2 n cap2 k hkn W)) rfl ?_
          simp only [nm0, nm1, nm2, nm3]
          refine lw_val (v := .agg (tokA Y)) (run_load_part (sub := tokA Y) rfl rfl hg2V hrt2 rowTok) rfl ?_
          simp only [nm0, nm1, nm2, nm3]
          refine wl_new hM0 (f := fun b => .pointer (some ⟨b, 0, none⟩)) (fun W => run_alloc_of rfl (al_Tok W)) rfl fun p V2b hM2 => ?_
          simp only [nm0, nm1, nm2, nm3]
          refine wl_pure (v := .int .i64 (k : Int)) (fun W => rfl) rfl ?_
          simp only [nm0, nm1, nm2, nm3]
          refine wl_set hM2 0 (cs := tokA Y) rfl rfl rfl rfl rowTok rfl (by simp [tokA, Value.oneCell']) rfl rfl fun V3 hM3 => ?_
          simp only [nm2, nm3] at hM3
          refine wpList_nil ?_
          have hpb := hM3.get 0 rfl
          obtain ⟨SX, hSX⟩ : ∃ SX : ByteArray, (⟨X.s.toArray⟩ : ByteArray) = SX := ⟨_, rfl⟩
          have y0 := blk_cell hpb (i := 0) (v := .int .i64 (X.kind : Int)) (by rw [← e1]; rfl)
          have y3 := blk_cell hpb (i := 3) (v := .int .i64 X.n) (by rw [← e2]; rfl)
          have y4 := blk_cell hpb (i := 4) (v := .string SX) (by rw [← hSX, ← e3]; rfl)
          have hg3 := (hM3.below.block g hgvl).trans hgv
          have c0 := blk_cell hg3 (i := 5 * k) (v := .int .i64 (X.kind : Int)) (row_cell (j := 0) hrt (by omega) rfl)
          have c3 := blk_cell hg3 (i := 5 * k + 3) (v := .int .i64 X.n) (row_cell (j := 3) hrt (by omega) rfl)
          have c4 := blk_cell hg3 (i := 5 * k + 4) (v := .string SX) (row_cell (j := 4) hrt (by omega) (by rw [← hSX]; rfl))
          have natk : (k : Int).toNat = k := by omega
          have IX := fun W => ix_Tok g n cap k hkn W
          have hbl := hbk.trans (hM3.below.mono hbk.size)
          have HBL := Lib.hid hbl
          have hblq : ∀ q, Below V3.heap.size V3 (V3.drewN q) := fun q => ⟨rfl, rfl, rfl, Nat.le_refl _, fun _ _ => rfl⟩
          clear hpb hg3 hgv hg2V hrt hrt2 hM0 hM2 hM3 hbl e1 e2 e3 hSX hbk
          go_upto_region 29 with fail
          go_quiet (fail)
          obtain ⟨V4, hV4⟩ : ∃ V4, V4 = V3.drewN nq := ⟨_, rfl⟩
          have hbl := HBL.out.trans ((hblq nq).mono HBL.out.size)
          rw [← hV4] at hbl ⊢
          clear hV4 hblq y0 y3 y4 c0 c3 c4 IX
          have HBF := Lib.hid hbl
          clear hbl
          go_wp2_with fail
          go_roundw
          case rel => exact ⟨k + 1, congrArg (Value.int .i64) (by omega), hkn, HBF.out⟩
          case measure => simp [Go.RowKit.intOf]; omega
        · have q9 : ¬ (k : Int) < (n : Int) := by omega
          have hTv := tabs_low (tabs_size hT2) hT2 hbk
          go_wp2_with fail
          refine (KL.out _ hTv).mono ?_
          rintro e V9 ⟨rfl, hb9⟩
          go_wp2_with fail
          go_ret
          have h8 := HKEY2.out.2.2.1
          have h7 := hb1.trans (h8.mono hb1.size)
          have h6 := h7.trans (hbk.mono h7.size)
          exact ⟨rfl, h6.trans (hb9.mono h6.size)⟩
    · obtain ⟨x, rest, e1, e2, hx3, hx4, hx5, hrest⟩ := els_head ha (fun y hy => HOK.out y (by rw [hx, hse]; exact List.mem_append_right _ hy))
      have hlt : pre.length < n := by rw [hse, e1, List.length_cons] at hlen; omega
      have q5 : (pre.length : Int) < (n : Int) := by omega
      have hxk : LL[pre.length]? = some x := by
        obtain ⟨h1, h3, h4⟩ := HN.out
        rw [h4, hx, hse, e1]
        simp
      have hrt := row_tok htk HN.out.1 hxk
      have hgW := (hbw.block g hg).trans hcur
      have hbl := (blk_ge t _ a rfl).2.2.1
      rw [← e2] at hbl
      have hM0 := Mem.start wr
      go_upto_region 11 with fail
      refine wp_region_lit ?_
      refine wl_pure (v := .int .i64 (pre.length : Int)) (fun W => rfl) rfl ?_
      simp only [nm0, nm1, nm2, nm3]
      refine wl_pure (v := .pointer (some ⟨g, 5 * pre.length, none⟩)) (fun W => run_index_of rfl rfl rfl (ix_Tok g n cap pre.length hlt W)) rfl ?_
      simp only [nm0, nm1, nm2, nm3]
      refine lw_val (v := .agg (tokA x)) (run_load_part (sub := tokA x) rfl rfl hgW hrt rowTok) rfl ?_
      simp only [nm0, nm1, nm2, nm3]
      refine wl_new hM0 (f := fun b => .pointer (some ⟨b, 0, none⟩)) (fun W => run_alloc_of rfl (al_Tok W)) rfl fun p V2 hM2 => ?_
      simp only [nm0, nm1, nm2, nm3]
      refine wl_pure (v := .int .i64 (pre.length : Int)) (fun W => rfl) rfl ?_
      simp only [nm0, nm1, nm2, nm3]
      refine wl_set hM2 0 (cs := tokA x) rfl rfl rfl rfl rowTok rfl (by simp [tokA, Value.oneCell']) rfl rfl fun V3 hM3 => ?_
      simp only [nm2, nm3] at hM3
      refine wpList_nil ?_
      have hpb := hM3.get 0 rfl
      have hb3 := hbw.trans (hM3.below.mono hbw.size)
      have x1 := blk_cell hpb (i := 1) (v := .int .i64 (x.fr : Int)) rfl
      have x2 := blk_cell hpb (i := 2) (v := .int .i64 (x.til : Int)) rfl
      have HBW := Lib.hid hb3
      obtain ⟨TS, hTS⟩ : ∃ TS, t.extract x.fr x.til = TS := ⟨_, rfl⟩
      have hTSd : TS.data.toList = (t.data.toList.drop x.fr).take (x.til - x.fr) := by rw [← hTS, Lib.extract_data]
      have hTSz : TS.size = x.til - x.fr := by
        rw [Lib.size_eq, hTSd, List.length_take, List.length_drop, tlen]
        omega
      have HSZ := Lib.hid hsz
      have FIN := Lib.hid (show els t 0 = (pre ++ [(x, 0)]) ++ rest ∧ ((rest = [] ∧ x.til = t.size) ∨ (rest ≠ [] ∧ rest = els t x.til)) ∧ s.data.toList = txt t (blZ zs lm) 0 (pre.map Prod.fst) ∧ True from ⟨by rw [hx, hse, e1]; simp, hrest, hs2, trivial⟩)
      have HP := Lib.hid hpb
      have HTS := Lib.hid (show _ ∧ _ ∧ _ from ⟨hTS, hTSd, hTSz⟩)
      clear hM0 hM2 hM3 hb3 hgW hrt hxk hx hne hse e1 e2 hrest hlen hs2 hsz hbw hpb hTS hTSd hTSz HN htk hcur
      go_upto_region 12 with fail
      go_wp2_with fail
      go_loop [13] (fun kv => ∃ k : Nat, kv = .int .i64 (k : Int) ∧ a ≤ k ∧ k ≤ x.fr) (fun kv => x.fr - (Go.RowKit.intOf kv).toNat)
      case atStart => exact ⟨a, rfl, Nat.le_refl _, hx5⟩
      case round =>
        obtain ⟨k, rfl, hka, hkf⟩ := hrel
        by_cases hkl : k < x.fr
        · have q6 : (k : Int) < (x.fr : Int) := by omega
          have hkt : k < t.size := by omega
          have q7 : (k : Int) < (t.size : Int) := by omega
          have natk : (k : Int).toNat = k := by omega
          have hB := hbl k hka hkl
          obtain ⟨c, hc⟩ : ∃ c, gb t k = c := ⟨_, rfl⟩
          have gk := (gb_at t k hkt).trans hc
          rw [hc] at hB
          unfold isB at hB
          simp only [Bool.or_eq_true, beq_iff_eq] at hB
          have i1 : IntKind.i64.wrap ((k : Int) + 1) = (k : Int) + 1 := IntWalk.i64_in _ (by omega)
          have kr : ∃ k2 : Nat, Value.int .i64 ((k : Int) + 1) = .int .i64 (k2 : Int) ∧ a ≤ k2 ∧ k2 ≤ x.fr := ⟨k + 1, congrArg (Value.int .i64) (by omega), by omega, hkl⟩
          have km : x.fr - (Go.RowKit.intOf (Value.int .i64 ((k : Int) + 1))).toNat < x.fr - (Go.RowKit.intOf (Value.int .i64 (k : Int))).toNat := by simp [Go.RowKit.intOf]; omega
          have KR := Lib.hid (And.intro kr km)
          clear kr km hc hbl
          by_cases c9 : c = 9
          · subst c9
            go_wp2_with fail
            go_round
            case rel => exact KR.out.1
            case measure => exact KR.out.2
          have b9 : ((c : Int) == 9) = false := by simp; omega
          by_cases c10 : c = 10
          · subst c10
            go_wp2_with fail
            go_round
            case rel => exact KR.out.1
            case measure => exact KR.out.2
          have b10 : ((c : Int) == 10) = false := by simp; omega
          by_cases c13 : c = 13
          · subst c13
            go_wp2_with fail
            go_round
            case rel => exact KR.out.1
            case measure => exact KR.out.2
          have b13 : ((c : Int) == 13) = false := by simp; omega
          have c32 : c = 32 := by omega
          subst c32
          go_wp2_with fail
          go_round
          case rel => exact KR.out.1
          case measure => exact KR.out.2
        · have q6 : ¬ (k : Int) < (x.fr : Int) := by omega
          clear hbl
          have i1 : IntKind.i64.wrap ((pre.length : Int) + 1) = (pre.length : Int) + 1 := IntWalk.i64_in _ (by omega)
          obtain ⟨hTS, hTSd, hTSz⟩ := HTS.out
          have hpb := HP.out
          go_upto_region 17 with fail
          refine wp_region_lit ?_
          refine wl_pure (v := .string s) (fun W => rfl) rfl ?_
          simp only [nm0, nm1, nm2, nm3]
          refine wl_pure (v := .string (s ++ ⟨#[32]⟩)) (fun W => run_bin_of rfl rfl rfl (add_str _ _ W (by have := HSZ.out; show s.size + 1 ≤ _; omega))) rfl ?_
          simp only [nm0, nm1, nm2, nm3]
          refine wl_pure (v := .string (s ++ ⟨#[32]⟩)) (fun W => rfl) rfl ?_
          simp only [nm0, nm1, nm2, nm3]
          refine wpList_nil ?_
          by_cases hil : pre.length < lm
          · have q8 : (pre.length : Int) < (lm : Int) := by omega
            rcases hZ with ⟨-, h0, -, -⟩ | ⟨xa, rfl, hlc, -, hzl, hcell, hwf⟩
            · omega
            obtain ⟨mb, off, rfl, hmb, hmc⟩ := row_at hcell (by omega)
            have hzc := hmc pre.length (by omega)
            have hzw := hwf (zs.getD pre.length 0) (by rw [List.getD_eq_getElem?_getD, List.getElem?_eq_getElem (by omega)]; exact List.getElem_mem _)
            have hbl1 : blZ zs lm pre.length = [bch ((zs.getD pre.length 0).toNat % 4)] := if_pos hil
            obtain ⟨zn, hzn⟩ : ∃ zn : Nat, zs.getD pre.length 0 = (zn : Int) ∧ zn < 256 := by
              have h9 := wf8 hzw
              exact ⟨(zs.getD pre.length 0).toNat, by omega, by omega⟩
            rw [hzn.1] at hzc hbl1
            rw [Int.toNat_natCast] at hbl1
            have hzn2 := hzn.2
            obtain ⟨j, hj⟩ : ∃ j, zn % 4 = j := ⟨_, rfl⟩
            rw [hj] at hbl1
            have hj4 : j < 4 := by omega
            have hzV : V3.cell? ⟨mb, off + pre.length, none⟩ = some (.int .u8 (zn : Int)) := ((hb1.trans (HBW.out.mono hb1.size)).cell (p := ⟨mb, off + pre.length, none⟩) hmb).trans hzc
            have tj : (zn : Int).tmod 4 = (j : Int) := by rw [← hj]; rfl
            have natp : (pre.length : Int).toNat = pre.length := by omega
            have wj : IntKind.u8.wrap ((j : Int) + 1) = (j : Int) + 1 := by rw [IntKind.wrap_u8]; omega
            have wz : IntKind.u8.wrap (j : Int) = (j : Int) := by rw [IntKind.wrap_u8]; omega
            have XT := bch_ext j hj4
            clear hzn hcell hwf hmc hzw hzc
            have SLX : ∀ W, (Instr.sliceAt 9 (.string ⟨#[9, 10, 13, 32]⟩) (some (.int .u8 (j : Int))) (some (.int .u8 ((j : Int) + 1))) none).run Tryd.prog W = .ok (.string ⟨#[bch j]⟩) W := fun W => by
              rw [show (j : Int) + 1 = ((j + 1 : Nat) : Int) by omega]
              have := slc_str (P := Tryd.prog) (ty := 9) (S := ⟨#[9, 10, 13, 32]⟩) (i := j) (j := j + 1) (k := .u8) (k' := .u8) W Tryd.underlying9 (by omega) (by show j + 1 ≤ 4; omega)
              rw [XT] at this
              exact this
            have hS1 : (s ++ ⟨#[32]⟩ : ByteArray).size = s.size + 1 := by rw [cat_size]; rfl
            have hS2 : (s ++ ⟨#[32]⟩ ++ ⟨#[bch j]⟩ : ByteArray).size = s.size + 2 := by rw [cat_size, hS1]; rfl
            obtain ⟨s1, hs1⟩ : ∃ s1 : ByteArray, s ++ ⟨#[32]⟩ = s1 := ⟨_, rfl⟩
            obtain ⟨s2, hs2⟩ : ∃ s2 : ByteArray, s1 ++ ⟨#[bch j]⟩ = s2 := ⟨_, rfl⟩
            have hd2 : s2.data.toList = s.data.toList ++ [32, bch j] := by rw [← hs2, ← hs1, cat_str, cat_str]; simp
            rw [hs1] at hS1 hS2 ⊢
            rw [hs2] at hS2
            have ADX : ∀ W, (binOp .add 9 (.string s1) (.string ⟨#[bch j]⟩)).run Tryd.prog W = .ok (.string s2) W := fun W => by
              have h9 := add_str (P := Tryd.prog) (ty := 9) (S := s1) (T := ⟨#[bch j]⟩) (.tmp 0) (.tmp 0) W (by have := HSZ.out; rw [hS1]; show _ + 1 ≤ _; omega)
              rw [hs2] at h9
              simpa [eqGuard] using h9
            have hs1z : s1.size + 1 ≤ 9223372036854775807 := by have := HSZ.out; rw [hS1]; omega
            have hs1y : s1.size ≤ 9223372036854775806 := by omega
            have bsz : (⟨#[bch j]⟩ : ByteArray).size = 1 := rfl
            clear hS1
            go_upto_region 19 with fail
            have zsz : (⟨#[9, 10, 13, 32]⟩ : ByteArray).size = 4 := rfl
            have hblq : ∀ q, Below V3.heap.size V3 (V3.drewN q) := fun q => ⟨rfl, rfl, rfl, Nat.le_refl _, fun _ _ => rfl⟩
            go_quiet (fail)
            obtain ⟨V4, hV4⟩ : ∃ V4, V4 = V3.drewN nq := ⟨_, rfl⟩
            have hbl := hblq nq
            rw [← hV4] at hbl ⊢
            clear hV4 hblq
            have hpb := (hbl.block p (Array.getElem?_eq_some_iff.1 hpb).1).trans hpb
            have HBW := Lib.hid (HBW.out.trans (hbl.mono HBW.out.size))
            clear hbl

            clear SLX ADX hs1z hs1y bsz XT tj wj wz hzV hmb
            go_upto_region 20 with fail
            refine wp_region_lit ?_
            refine wl_pure (v := .string s2) (fun W => rfl) rfl ?_
            simp only [nm0, nm1, nm2, nm3]
            refine wl_pure (v := .string t) (fun W => rfl) rfl ?_
            simp only [nm0, nm1, nm2, nm3]
            refine wl_pure (v := .pointer (some ⟨p, 1, none⟩)) (fun W => run_field_of rfl rfl (fl_Tok1 p W)) rfl ?_
            simp only [nm0, nm1, nm2, nm3]
            refine lw_val (v := .int .i64 (x.fr : Int)) (run_load_cell rfl rfl hpb rfl cellInt) rfl ?_
            simp only [nm0, nm1, nm2, nm3]
            refine wl_pure (v := .pointer (some ⟨p, 2, none⟩)) (fun W => run_field_of rfl rfl (fl_Tok2 p W)) rfl ?_
            simp only [nm0, nm1, nm2, nm3]
            refine lw_val (v := .int .i64 (x.til : Int)) (run_load_cell rfl rfl hpb rfl cellInt) rfl ?_
            simp only [nm0, nm1, nm2, nm3]
            refine wl_pure (v := .string TS) (fun W => by refine run_slc_str W rfl rfl ?_; rw [← hTS]; exact slc_str W Tryd.underlying9 hx3 hx4) rfl ?_
            simp only [nm0, nm1, nm2, nm3]
            refine wl_pure (v := .string (s2 ++ TS)) (fun W => run_bin_of rfl rfl rfl (add_str _ _ W (by have := HSZ.out; rw [hTSz, hS2]; omega))) rfl ?_
            simp only [nm0, nm1, nm2, nm3]
            refine wl_pure (v := .string (s2 ++ TS)) (fun W => rfl) rfl ?_
            simp only [nm0, nm1, nm2, nm3]
            refine wpList_nil ?_
            have hS3 : (s2 ++ TS).size = s.size + 2 + (x.til - x.fr) := by rw [cat_size, hS2, hTSz]
            have hS4 : (s2 ++ TS).data.toList = txt t (blZ zs lm) 0 ((pre ++ [(x, 0)]).map Prod.fst) := by
              rw [List.map_append, txt_app, cat_str, hd2, FIN.out.2.2.1, hTSd]
              simp [txt, hbl1]
            obtain ⟨s3, hs3⟩ : ∃ s3 : ByteArray, s2 ++ TS = s3 := ⟨_, rfl⟩
            rw [hs3] at hS3 hS4 ⊢
            have HS := Lib.hid (And.intro hS3 hS4)
            have y2 := blk_cell hpb (i := 2) (v := .int .i64 (x.til : Int)) rfl
            clear hTS hs3 hS3 hS4 hTSd hTSz
            go_wp2_with fail
            go_roundw
            case rel =>
              obtain ⟨z1, z2, z3, z4⟩ := FIN.out
              obtain ⟨z5, z6⟩ := HS.out
              exact ⟨pre ++ [(x, 0)], rest, x.til, s3, rfl, rfl, congrArg (Value.int .i64) (by simp), z1, z2, hx4, z6, by have := HSZ.out; rw [List.length_append, z5, List.length_cons, List.length_nil]; omega, HBW.out⟩
            case measure => simp [Go.RowKit.intOf]; omega
          · have q8 : ¬ (pre.length : Int) < (lm : Int) := by omega
            have hbl0 : blZ zs lm pre.length = [] := if_neg hil
            have hS1 : (s ++ ⟨#[32]⟩ : ByteArray).size = s.size + 1 := by rw [cat_size]; rfl
            obtain ⟨s1, hs1⟩ : ∃ s1 : ByteArray, s ++ ⟨#[32]⟩ = s1 := ⟨_, rfl⟩
            have hd1 : s1.data.toList = s.data.toList ++ [32] := by rw [← hs1, cat_str]
            rw [hs1] at hS1 ⊢
            go_upto_region 20 with fail
            refine wp_region_lit ?_
            refine wl_pure (v := .string s1) (fun W => rfl) rfl ?_
            simp only [nm0, nm1, nm2, nm3]
            refine wl_pure (v := .string t) (fun W => rfl) rfl ?_
            simp only [nm0, nm1, nm2, nm3]
            refine wl_pure (v := .pointer (some ⟨p, 1, none⟩)) (fun W => run_field_of rfl rfl (fl_Tok1 p W)) rfl ?_
            simp only [nm0, nm1, nm2, nm3]
            refine lw_val (v := .int .i64 (x.fr : Int)) (run_load_cell rfl rfl hpb rfl cellInt) rfl ?_
            simp only [nm0, nm1, nm2, nm3]
            refine wl_pure (v := .pointer (some ⟨p, 2, none⟩)) (fun W => run_field_of rfl rfl (fl_Tok2 p W)) rfl ?_
            simp only [nm0, nm1, nm2, nm3]
            refine lw_val (v := .int .i64 (x.til : Int)) (run_load_cell rfl rfl hpb rfl cellInt) rfl ?_
            simp only [nm0, nm1, nm2, nm3]
            refine wl_pure (v := .string TS) (fun W => by refine run_slc_str W rfl rfl ?_; rw [← hTS]; exact slc_str W Tryd.underlying9 hx3 hx4) rfl ?_
            simp only [nm0, nm1, nm2, nm3]
            refine wl_pure (v := .string (s1 ++ TS)) (fun W => run_bin_of rfl rfl rfl (add_str _ _ W (by have := HSZ.out; rw [hTSz, hS1]; omega))) rfl ?_
            simp only [nm0, nm1, nm2, nm3]
            refine wl_pure (v := .string (s1 ++ TS)) (fun W => rfl) rfl ?_
            simp only [nm0, nm1, nm2, nm3]
            refine wpList_nil ?_
            have hS3 : (s1 ++ TS).size = s.size + 1 + (x.til - x.fr) := by rw [cat_size, hS1, hTSz]
            have hS4 : (s1 ++ TS).data.toList = txt t (blZ zs lm) 0 ((pre ++ [(x, 0)]).map Prod.fst) := by
              rw [List.map_append, txt_app, cat_str, hd1, FIN.out.2.2.1, hTSd]
              simp [txt, hbl0]
            obtain ⟨s3, hs3⟩ : ∃ s3 : ByteArray, s1 ++ TS = s3 := ⟨_, rfl⟩
            rw [hs3] at hS3 hS4 ⊢
            have HS := Lib.hid (And.intro hS3 hS4)
            have y2 := blk_cell hpb (i := 2) (v := .int .i64 (x.til : Int)) rfl
            clear hTS hs3 hS3 hS4 hTSd hTSz
            go_wp2_with fail
            go_roundw
            case rel =>
              obtain ⟨z1, z2, z3, z4⟩ := FIN.out
              obtain ⟨z5, z6⟩ := HS.out
              exact ⟨pre ++ [(x, 0)], rest, x.til, s3, rfl, rfl, congrArg (Value.int .i64) (by simp), z1, z2, hx4, z6, by have := HSZ.out; rw [List.length_append, z5, List.length_cons, List.length_nil]; omega, HBW.out⟩
            case measure => simp [Go.RowKit.intOf]; omega
end Go.Proofs.YtndifilhfiooaaaDoor
namespace Go.Proofs.YtndifilhfiooaaaDoor
set_option maxRecDepth 20000
set_option linter.unusedSimpArgs false
set_option linter.unusedVariables false
open Go.RowKit Go.Lib
theorem tabs_lblanks {W : World} (h : laidMetH Tryd.prog Rows.lexBlanksRow.laid W) : Tabs W := tabs_of_list h
theorem lexBlanks_walk (t : ByteArray) (a : Option Addr) (len cap : Nat) (zs : List Int) (W : World) (_ : t.size ≤ maxLen) (hz : IsRow .u8 W a len cap zs) (h : Tabs W) :
    Calls Tryd.prog 5 #[.string t, .slice a len cap] W fun e W' => e = .returned (.bool true) ∧ Below W.heap.size W W' := lexBlanks_w t a len cap zs W hz h
end Go.Proofs.YtndifilhfiooaaaDoor
