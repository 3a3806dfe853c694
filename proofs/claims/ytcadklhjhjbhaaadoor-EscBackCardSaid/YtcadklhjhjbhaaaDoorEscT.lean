/- esc (layer 4): what is quoted is read as it was; what is read isn't longer when it is quoted. -/
import Derived.Test.YtcadklhjhjbhaaaDoorEscQ
import Derived.Test.YtcadklhjhjbhaaaDoorUtfK
namespace Go.Proofs.YtcadklhjhjbhaaaDoor
set_option maxRecDepth 20000
set_option linter.unusedSimpArgs false
set_option linter.unusedVariables false
open Go.RowKit Go.Lib Go.Shelf
def fb (ns : List Nat) : List UInt8 := ns.flatMap form
theorem run_fb : ∀ (ns : List Nat) (A : List UInt8) (pre : List (Nat × Nat)), (∀ n ∈ ns, isCp n) → (A ++ fb ns).length ≤ 100000 → Read (A ++ fb ns) pre A.length → ∃ pre', Read (A ++ fb ns) (pre ++ pre') (A ++ fb ns).length ∧ pre'.map Prod.snd = ns
  | [], A, pre, _, _, h => ⟨[], by simpa [fb] using h, rfl⟩
  | n :: ns, A, pre, hc, hl, h => by
    have e : A ++ fb (n :: ns) = (A ++ form n) ++ fb ns := by simp [fb]
    have hx : nx ((A ++ fb (n :: ns)).drop A.length) = some (n, (form n).length) := by
      rw [List.drop_left]
      exact form_nx (hc n (List.mem_cons_self ..)) ⟨fb ns, by simp [fb]⟩
    have h1 := h.step hl hx
    rw [e] at h1 hl
    rw [show A.length + (form n).length = (A ++ form n).length by simp] at h1
    obtain ⟨pre', h2, h3⟩ := run_fb ns (A ++ form n) _ (fun m hm => hc m (List.mem_cons_of_mem _ hm)) hl h1
    refine ⟨(A.length, n) :: pre', ?_, by rw [List.map_cons, h3]⟩
    rw [e]
    simpa using h2
theorem cp_fb (ns : List Nat) (hc : ∀ n ∈ ns, isCp n) (hl : (fb ns).length ≤ 100000) : cpN (fb ns) = ns ∧ validB (fb ns) = true := by
  obtain ⟨pre', h, hm⟩ := run_fb ns [] [] hc (by simpa using hl) (by simpa using Read.zero (fb ns))
  simp only [List.nil_append] at h
  have hx : nx ((fb ns).drop (fb ns).length) = none := by rw [List.drop_length]; rfl
  have h2 := h.last hx
  refine ⟨by unfold cpN; rw [h2.1, hm], ?_⟩
  unfold validB
  rw [h2.2]
  simp
theorem bytes_fb : ∀ ns : List Nat, bytesN ns = (fb ns).map UInt8.toNat
  | [] => rfl
  | n :: ns => by
    have h := bytes_fb ns
    unfold bytesN at h ⊢
    rw [List.map_cons, List.flatten_cons, h]
    simp [fb, nats]
theorem toNat_inj : ∀ {a b : List UInt8}, a.map UInt8.toNat = b.map UInt8.toNat → a = b
  | [], [], _ => rfl
  | [], _ :: _, h => by simp at h
  | _ :: _, [], h => by simp at h
  | x :: a, y :: b, h => by
    simp only [List.map_cons, List.cons.injEq] at h
    rw [UInt8.toNat_inj.1 h.1, toNat_inj h.2]
theorem of_valid {L : List UInt8} (hL : L.length ≤ 100000) (hv : validB L = true) : L = fb (cpN L) ∧ ∀ x ∈ cpN L, isCp x := by
  obtain ⟨h1, h2⟩ := valid_bytes hL hv
  exact ⟨toNat_inj (by rw [h1, bytes_fb]), h2⟩
theorem outL_eq (L : List UInt8) : outL (cpsAt L 0) = 34 :: (cpN L).flatMap oneV := by
  unfold outL cpN
  rw [List.flatMap_map]
theorem at_app (A B : List UInt8) (i : Nat) : at_ (A ++ B) (A.length + i) = at_ B i := by
  unfold at_
  rw [List.getD_eq_getElem?_getD, List.getD_eq_getElem?_getD, List.getElem?_append_right (by omega), Nat.add_sub_cancel_left]
theorem let_back {n c : Nat} (h : letV n = some c) : c < 256 ∧ c ≠ 117 ∧ meanV c = some n := by
  unfold letV at h
  repeat' split at h
  all_goals first | (cases h; subst_vars; exact ⟨by decide, by decide, rfl⟩) | (cases h)
theorem hex_low (n : Nat) (h : n < 32) : (hexv (hexC (n / 16)).toNat = some (n / 16)) ∧ hexv (hexC (n % 16)).toNat = some (n % 16) :=
  match n, h with
  | 0, _ => ⟨rfl, rfl⟩
  | 1, _ => ⟨rfl, rfl⟩
  | 2, _ => ⟨rfl, rfl⟩
  | 3, _ => ⟨rfl, rfl⟩
  | 4, _ => ⟨rfl, rfl⟩
  | 5, _ => ⟨rfl, rfl⟩
  | 6, _ => ⟨rfl, rfl⟩
  | 7, _ => ⟨rfl, rfl⟩
  | 8, _ => ⟨rfl, rfl⟩
  | 9, _ => ⟨rfl, rfl⟩
  | 10, _ => ⟨rfl, rfl⟩
  | 11, _ => ⟨rfl, rfl⟩
  | 12, _ => ⟨rfl, rfl⟩
  | 13, _ => ⟨rfl, rfl⟩
  | 14, _ => ⟨rfl, rfl⟩
  | 15, _ => ⟨rfl, rfl⟩
  | 16, _ => ⟨rfl, rfl⟩
  | 17, _ => ⟨rfl, rfl⟩
  | 18, _ => ⟨rfl, rfl⟩
  | 19, _ => ⟨rfl, rfl⟩
  | 20, _ => ⟨rfl, rfl⟩
  | 21, _ => ⟨rfl, rfl⟩
  | 22, _ => ⟨rfl, rfl⟩
  | 23, _ => ⟨rfl, rfl⟩
  | 24, _ => ⟨rfl, rfl⟩
  | 25, _ => ⟨rfl, rfl⟩
  | 26, _ => ⟨rfl, rfl⟩
  | 27, _ => ⟨rfl, rfl⟩
  | 28, _ => ⟨rfl, rfl⟩
  | 29, _ => ⟨rfl, rfl⟩
  | 30, _ => ⟨rfl, rfl⟩
  | 31, _ => ⟨rfl, rfl⟩
  | k + 32, h => absurd h (by omega)
theorem esc_low (A B : List UInt8) (n : Nat) (h : n < 32) : escV (A ++ ([92, 117, 48, 48, hexC (n / 16), hexC (n % 16)] ++ B)) (A.length + 1) = .ok (n, A.length + 6) := by
  have hl : (A ++ ([92, 117, 48, 48, hexC (n / 16), hexC (n % 16)] ++ B)).length = A.length + 6 + B.length := by simp; omega
  obtain ⟨h1, h2⟩ := hex_low n h
  have a1 := at_app A ([92, 117, 48, 48, hexC (n / 16), hexC (n % 16)] ++ B) 1
  have a2 := at_app A ([92, 117, 48, 48, hexC (n / 16), hexC (n % 16)] ++ B) 2
  have a3 := at_app A ([92, 117, 48, 48, hexC (n / 16), hexC (n % 16)] ++ B) 3
  have a4 := at_app A ([92, 117, 48, 48, hexC (n / 16), hexC (n % 16)] ++ B) 4
  have a5 := at_app A ([92, 117, 48, 48, hexC (n / 16), hexC (n % 16)] ++ B) 5
  generalize A ++ ([92, 117, 48, 48, hexC (n / 16), hexC (n % 16)] ++ B) = Q at *
  have f : fourAt Q 4 (A.length + 1 + 1) 0 = .ok n := by
    unfold fourAt
    rw [if_neg (by omega), show A.length + 1 + 1 = A.length + 2 by omega, a2, show hexv (at_ ([92, 117, 48, 48, hexC (n / 16), hexC (n % 16)] ++ B) 2) = some 0 from rfl]
    simp only
    unfold fourAt
    rw [if_neg (by omega), show A.length + 2 + 1 = A.length + 3 by omega, a3, show hexv (at_ ([92, 117, 48, 48, hexC (n / 16), hexC (n % 16)] ++ B) 3) = some 0 from rfl]
    simp only
    unfold fourAt
    rw [if_neg (by omega), show A.length + 3 + 1 = A.length + 4 by omega, a4, show hexv (at_ ([92, 117, 48, 48, hexC (n / 16), hexC (n % 16)] ++ B) 4) = some (n / 16) from h1]
    simp only
    unfold fourAt
    rw [if_neg (by omega), show A.length + 4 + 1 = A.length + 5 by omega, a5, show hexv (at_ ([92, 117, 48, 48, hexC (n / 16), hexC (n % 16)] ++ B) 5) = some (n % 16) from h2]
    simp only
    unfold fourAt
    congr 1
    omega
  unfold escV
  rw [if_neg (by omega), if_pos (by rw [a1]; rfl)]
  unfold numV
  rw [f]
  simp only
  rw [if_pos (by omega)]
theorem back_fb : ∀ (ns : List Nat) (A : List UInt8), (∀ n ∈ ns, isCp n) → unq (A ++ (ns.flatMap oneV ++ [34])) A.length = .ok (fb ns, (A ++ (ns.flatMap oneV ++ [34])).length)
  | [], A, _ => by
    have h := unq_quote (L := A ++ [34]) (i := A.length) (by simp) (by have := at_app A [34] 0; rw [Nat.add_zero] at this; rw [this]; rfl)
    show unq (A ++ [34]) A.length = _
    rw [h]
    simp [fb]
  | n :: ns, A, hc => by
    have ih := back_fb ns (A ++ oneV n) (fun m hm => hc m (List.mem_cons_of_mem _ hm))
    have e : A ++ ((n :: ns).flatMap oneV ++ [34]) = (A ++ oneV n) ++ (ns.flatMap oneV ++ [34]) := by simp
    have e2 : A ++ ((n :: ns).flatMap oneV ++ [34]) = A ++ (oneV n ++ (ns.flatMap oneV ++ [34])) := by simp
    rw [e]
    generalize hB : ns.flatMap oneV ++ [34] = B at *
    have hcn := hc n (List.mem_cons_self ..)
    have fin : ∀ k, k = (oneV n).length → pre (form n) (unq (A ++ oneV n ++ B) (A.length + k)) = .ok (fb (n :: ns), (A ++ oneV n ++ B).length) := fun k hk => by
      rw [hk, ← List.length_append, ih]
      simp [pre, fb]
    cases hl : letV n with
    | some c =>
      obtain ⟨c1, c2, c3⟩ := let_back hl
      have ho : oneV n = [92, UInt8.ofNat c] := by unfold oneV; rw [hl]
      have a0 := at_app A (oneV n ++ B) 0
      have a1 := at_app A (oneV n ++ B) 1
      rw [← List.append_assoc] at a0 a1
      have hc2 : at_ (oneV n ++ B) 1 = c := by
        rw [ho]
        show (UInt8.ofNat c).toNat = c
        rw [UInt8.toNat_ofNat']
        omega
      have hs : escV (A ++ oneV n ++ B) (A.length + 1) = .ok (n, A.length + 2) := by
        unfold escV
        rw [if_neg (by rw [ho]; simp <;> omega), a1, hc2, if_neg c2, c3]
      rw [unq_esc (by rw [ho]; simp <;> omega) (by rw [show A.length = A.length + 0 from rfl, a0, ho]; rfl), hs]
      exact fin 2 (by rw [ho]; rfl)
    | none =>
      by_cases h32 : n < 32
      · have ho : oneV n = [92, 117, 48, 48, hexC (n / 16), hexC (n % 16)] := by unfold oneV; rw [hl]; simp only; rw [if_pos h32]
        have a0 := at_app A (oneV n ++ B) 0
        have hs := esc_low A B n h32
        rw [← ho] at hs
        rw [← List.append_assoc] at a0 hs
        rw [unq_esc (by rw [ho]; simp <;> omega) (by rw [show A.length = A.length + 0 from rfl, a0, ho]; rfl), hs]
        exact fin 6 (by rw [ho]; rfl)
      · have ho : oneV n = form n := by unfold oneV; rw [hl]; simp only; rw [if_neg h32]
        have a0 := at_app A (oneV n ++ B) 0
        rw [← List.append_assoc] at a0
        have hlp := form_len_pos hcn
        have hx : nx ((A ++ oneV n ++ B).drop A.length) = some (n, (form n).length) := by
          rw [List.append_assoc, List.drop_left, ho]
          exact form_nx hcn ⟨B, rfl⟩
        have hat : at_ (A ++ oneV n ++ B) A.length = at_ (form n ++ B) 0 := by rw [← ho]; exact a0
        have hfirst : 32 ≤ at_ (form n ++ B) 0 ∧ at_ (form n ++ B) 0 ≠ 34 ∧ at_ (form n ++ B) 0 ≠ 92 := by
          by_cases h7 : n < 128
          · have h8 : at_ (form n ++ B) 0 = n := by
              rw [form_lo h7]
              show (UInt8.ofNat n).toNat = n
              rw [UInt8.toNat_ofNat']
              omega
            rw [h8]
            unfold letV at hl
            refine ⟨by omega, fun h => ?_, fun h => ?_⟩ <;> (subst h; cases hl)
          · have h8 : 128 ≤ at_ (form n ++ B) 0 := by
              have hne : at_ (form n ++ B) 0 = ((form n).map UInt8.toNat).getD 0 0 := by
                cases hf : form n with
                | nil => rw [hf] at hlp; simp at hlp
                | cons b r => rfl
              rw [hne]
              rcases form_cases hcn with ⟨c, -⟩ | ⟨-, -, e⟩ | ⟨-, -, -, e⟩ | ⟨-, -, e⟩
              · omega
              · rw [e]; show 128 ≤ 192 + n / 64; omega
              · rw [e]; show 128 ≤ 224 + n / 4096; omega
              · rw [e]; show 128 ≤ 240 + n / 262144; omega
            omega
        rw [unq_cp (by rw [ho]; simp <;> omega) (by rw [hat]; exact hfirst.2.1) (by rw [hat]; exact hfirst.1) (by rw [hat]; exact hfirst.2.2), hx]
        simp only
        have hk : ((A ++ oneV n ++ B).drop A.length).take (form n).length = form n := by
          rw [List.append_assoc, List.drop_left, ho, List.take_left]
        rw [hk]
        exact fin _ (by rw [ho])
theorem back_any {L : List UInt8} (hL : L.length ≤ 100000) (hv : validB L = true) : unquoteV (quoteL L) 0 = .ok (L, (quoteL L).length) := by
  obtain ⟨h1, h2⟩ := of_valid hL hv
  have hq : quoteL L = [34] ++ ((cpN L).flatMap oneV ++ [34]) := by unfold quoteL; rw [outL_eq]; rfl
  have hu : unquoteV (quoteL L) 0 = unq (quoteL L) 1 := by
    unfold unquoteV
    have hlen : 2 ≤ (quoteL L).length := by rw [hq]; simp
    rw [if_neg (by omega), if_neg (by show ¬ (quoteL L).length ≤ 0; omega), if_neg (by rw [hq]; exact fun h => h rfl)]
    rfl
  rw [hu, hq]
  have h3 := back_fb (cpN L) [34] h2
  rw [← h1] at h3
  exact h3
theorem oneV_six (n : Nat) : (oneV n).length ≤ 6 := by
  by_cases h : (letV n).isSome = true ∨ n < 32
  · exact oneV_len n h
  · unfold oneV
    split
    · simp
    · rw [if_neg (fun h2 => h (.inr h2))]
      have := form_few n
      omega
theorem mean_two {c n : Nat} (h : meanV c = some n) : (oneV n).length ≤ 2 := by
  unfold meanV at h
  repeat' split at h
  all_goals first | (cases h; decide) | (cases h)
theorem esc_long {L : List UInt8} {a n a' : Nat} (h : escV L a = .ok (n, a')) : a + (oneV n).length ≤ a' + 1 := by
  unfold escV at h
  split at h
  · cases h
  · split at h
    · have h6 := oneV_six n
      have : a + 5 ≤ a' := by
        unfold numV at h
        split at h
        · cases h
        · split at h
          · cases h; omega
          · repeat' (split at h; · cases h)
            have := (Prod.mk.inj (Except.ok.inj h)).2
            omega
      omega
    · split at h
      · cases h
      · rename_i hm
        cases h
        have := mean_two hm
        omega
theorem let_none {n : Nat} (h : 32 ≤ n) (h34 : n ≠ 34) (h92 : n ≠ 92) : letV n = none := by
  unfold letV
  rw [if_neg h34, if_neg h92, if_neg (by omega), if_neg (by omega), if_neg (by omega), if_neg (by omega), if_neg (by omega)]
theorem oneV_form {n : Nat} (h : 32 ≤ n) (h34 : n ≠ 34) (h92 : n ≠ 92) : oneV n = form n := by
  unfold oneV
  rw [let_none h h34 h92]
  simp only
  rw [if_neg (by omega)]
theorem form_le (n : Nat) : (form n).length ≤ (oneV n).length := by
  by_cases h : 32 ≤ n ∧ n ≠ 34 ∧ n ≠ 92
  · rw [oneV_form h.1 h.2.1 h.2.2]; exact Nat.le_refl _
  · have hlo : n < 128 := by omega
    rw [form_lo hlo]
    unfold oneV
    split
    · simp
    · split
      · simp
      · rw [form_lo hlo]; exact Nat.le_refl _
theorem unq_valid (L : List UInt8) : ∀ (d i : Nat), L.length - i = d → ∀ s j, unq L i = .ok (s, j) → ∃ ns : List Nat, s = fb ns ∧ (∀ n ∈ ns, isCp n) ∧ i + (ns.flatMap oneV).length + 1 ≤ j ∧ j ≤ L.length ∧ s.length ≤ (ns.flatMap oneV).length := by
  intro d
  induction d using Nat.strongRecOn with
  | ind d ih =>
    intro i hd s j h
    by_cases hi : L.length ≤ i
    · rw [unq_end hi] at h; cases h
    by_cases h34 : at_ L i = 34
    · rw [unq_quote (by omega) h34] at h
      cases h
      exact ⟨[], rfl, (fun _ h => by cases h), by simp, by omega, by simp⟩
    by_cases h32 : at_ L i < 32
    · rw [unq_low (by omega) h32] at h; cases h
    have step : ∀ n a P, isCp n → form n = P → i < a → i + (oneV n).length ≤ a → pre P (unq L a) = .ok (s, j) → ∃ ns : List Nat, s = fb ns ∧ (∀ n ∈ ns, isCp n) ∧ i + (ns.flatMap oneV).length + 1 ≤ j ∧ j ≤ L.length ∧ s.length ≤ (ns.flatMap oneV).length := fun n a P hn hP ha ho hp => by
      cases hu : unq L a with
      | error m => rw [hu] at hp; cases hp
      | ok r =>
        obtain ⟨s', j'⟩ := r
        rw [hu] at hp
        obtain ⟨rfl, rfl⟩ := Prod.mk.inj (Except.ok.inj hp)
        obtain ⟨ns, h1, h2, h3, h4, h5⟩ := ih (L.length - a) (by omega) a rfl s' j' hu
        refine ⟨n :: ns, by rw [h1, ← hP]; rfl, fun m hm => ?_, ?_, h4, ?_⟩
        · rcases List.mem_cons.1 hm with rfl | hm
          · exact hn
          · exact h2 m hm
        · rw [List.flatMap_cons, List.length_append]; omega
        · rw [List.flatMap_cons, List.length_append, List.length_append, ← hP]
          have := form_le n
          omega
    by_cases h92 : at_ L i = 92
    · rw [unq_esc (by omega) h92] at h
      cases he : escV L (i + 1) with
      | error m => rw [he] at h; cases h
      | ok r =>
        obtain ⟨n, a⟩ := r
        rw [he] at h
        have h1 := esc_lt he
        have h2 := esc_long he
        exact step n a _ (esc_cp he) rfl (by omega) (by omega) h
    · rw [unq_cp (by omega) h34 (by omega) h92] at h
      cases hx : nx (L.drop i) with
      | none => rw [hx] at h; cases h
      | some r =>
        obtain ⟨n, k⟩ := r
        rw [hx] at h
        obtain ⟨h3, h4, h5⟩ := nx_form hx
        have h6 := nx_lt hx
        have hk : (form n).length = k := by rw [h4, List.length_take]; omega
        have ho : oneV n = form n := by
          by_cases h7 : n < 128
          · have h8 : at_ L i = n := by
              rw [form_lo h7] at h4
              have h9 : (L.drop i).take k = [UInt8.ofNat n] := h4.symm
              have h10 : L.getD i 0 = UInt8.ofNat n := by
                have h11 : ((L.drop i).take k)[0]? = some (UInt8.ofNat n) := by rw [h9]; rfl
                rw [List.getElem?_take, if_pos (by omega), List.getElem?_drop, Nat.add_zero] at h11
                rw [List.getD_eq_getElem?_getD, h11]
                rfl
              unfold at_
              rw [h10, UInt8.toNat_ofNat']
              omega
            exact oneV_form (by omega) (by omega) (by omega)
          · exact oneV_form (by omega) (by omega) (by omega)
        exact step n (i + k) _ h3 h4 (by omega) (by rw [ho, hk]; omega) h
/-- Whatever is read is a text that isn't longer when it is quoted. -/
theorem read_quoted {L : List UInt8} (hL : L.length ≤ 10000) {s : List UInt8} {j : Nat} (h : unquoteV L 0 = .ok (s, j)) : validB s = true ∧ (quoteL s).length ≤ j ∧ s.length ≤ L.length := by
  have hu : unq L 1 = .ok (s, j) := by
    unfold unquoteV at h
    split at h
    · cases h
    · split at h
      · cases h
      · split at h
        · cases h
        · exact h
  obtain ⟨ns, rfl, h2, h3, h4, h5⟩ := unq_valid L _ 1 rfl s j hu
  obtain ⟨h6, h7⟩ := cp_fb ns h2 (by omega)
  refine ⟨h7, ?_, by omega⟩
  unfold quoteL
  rw [outL_eq, h6]
  simp only [List.cons_append, List.length_cons, List.length_append, List.length_nil]
  omega
end Go.Proofs.YtcadklhjhjbhaaaDoor
