/- esc (layer 4): number and escape. -/
import Derived.Test.YtcadklhjhjbhaaaDoorEscC
namespace Go.Proofs.YtcadklhjhjbhaaaDoor
set_option maxRecDepth 20000
set_option linter.unusedSimpArgs false
set_option linter.unusedVariables false
open Go.RowKit Go.Lib Go.Shelf
attribute [local go_sem] Oper.semAt_some
/-- What \u stands for, read behind the u; and where it ends. -/
def numV (L : List UInt8) (a : Nat) : Except Nat (Nat × Nat) :=
  match fourAt L 4 a 0 with
  | .error m => .error m
  | .ok n => if n < 55296 ∨ 57343 < n then .ok (n, a + 4) else if 56320 ≤ n then .error 11 else
    if L.length ≤ a + 4 then .error 5 else if at_ L (a + 4) ≠ 92 then .error 11 else
    if L.length ≤ a + 5 then .error 5 else if at_ L (a + 5) ≠ 117 then .error 11 else
    match fourAt L 4 (a + 6) 0 with
    | .error m => .error m
    | .ok m => if m < 56320 ∨ 57343 < m then .error 11 else .ok (65536 + 1024 * (n - 55296) + (m - 56320), a + 10)
def escV (L : List UInt8) (a : Nat) : Except Nat (Nat × Nat) :=
  if L.length ≤ a then .error 5 else if at_ L a = 117 then numV L (a + 1) else match meanV (at_ L a) with
    | none => .error 11
    | some n => .ok (n, a + 1)
/-- How reading a code point ends. -/
def OutN (t : ByteArray) (b : Nat) (S : Value → World → Prop) (e : Ending) (w' : World) : Except Nat (Nat × Nat) → Prop
  | .ok (n, a') => e = .returned (.int .i32 (n : Int)) ∧ (∃ sh, w'.heap[b]? = some (rdB t a' sh) ∧ S sh w') ∧ isCp n ∧ a' ≤ t.size
  | .error m => e = .panicked (pch (m : Int))
set_option maxRecDepth 100000 in
set_option maxHeartbeats 4000000 in
theorem number_any (t : ByteArray) (a b : Nat) (sh : Value) (w : World) (hb : w.heap[b]? = some (rdB t a sh)) (ht : t.size ≤ 100000) (ha : a ≤ t.size) :
    Calls Tryd.prog 68 #[.pointer (some ⟨b, 0, none⟩)] w fun e w' => Oth b w w' ∧ OutN t b (fun s _ => s = sh) e w' (numV t.data.toList a) := by
  have K4 := Lib.hid (fun a w hb ha => four_any t a b sh w hb ht ha)
  have KT := Lib.hid (fun a w hb ha => take_yes t a b sh w hb ht ha)
  have KU := Lib.hid (fun a w hb ha => take_no t a b sh w hb ht ha)
  have KY := Lib.hid (fun w => must_yes 11 w)
  have KN := Lib.hid (fun w => must_no 11 w)
  have HB := Lib.hid hb
  clear hb
  obtain ⟨R, hR⟩ : ∃ R, numV t.data.toList a = R := ⟨_, rfl⟩
  rw [hR]
  have HR := Lib.hid hR
  clear hR
  go_enter Tryd.func68, Tryd.ntmps68
  go_wp2_with fail
  refine (K4.out a w HB.out ha).mono ?_
  rintro e w1 ⟨ho1, hr1⟩
  cases h1 : fourAt t.data.toList 4 a 0 with
  | error m =>
    rw [h1] at hr1
    obtain rfl : e = .panicked (pch (m : Int)) := hr1
    go_wp2_with fail
    exact ⟨rfl, ho1, by rw [← HR.out, numV, h1]; exact rfl⟩
  | ok n =>
    rw [h1] at hr1
    obtain ⟨rfl, hb1, hn, ha4⟩ := hr1
    have e1 : numV t.data.toList a = if n < 55296 ∨ 57343 < n then .ok (n, a + 4) else if 56320 ≤ n then .error 11 else
        if t.data.toList.length ≤ a + 4 then .error 5 else if at_ t.data.toList (a + 4) ≠ 92 then .error 11 else
        if t.data.toList.length ≤ a + 5 then .error 5 else if at_ t.data.toList (a + 5) ≠ 117 then .error 11 else
        match fourAt t.data.toList 4 (a + 6) 0 with
        | .error m => .error m
        | .ok m => if m < 56320 ∨ 57343 < m then .error 11 else .ok (65536 + 1024 * (n - 55296) + (m - 56320), a + 10) := by
      rw [numV, h1]
    rw [len_of] at e1
    have E1 := Lib.hid e1
    clear e1 h1
    by_cases c1 : n < 55296
    · have p1 : (n : Int) < 55296 := by omega
      go_wp2_with fail
      go_ret
      exact ⟨ho1, by rw [← HR.out, E1.out, if_pos (.inl c1)]; exact ⟨rfl, ⟨sh, hb1, rfl⟩, ⟨by omega, .inl c1⟩, ha4⟩⟩
    have p1 : ¬ (n : Int) < 55296 := by omega
    by_cases c2 : 57343 < n
    · have p2 : (57343 : Int) < (n : Int) := by omega
      go_wp2_with fail
      go_ret
      exact ⟨ho1, by rw [← HR.out, E1.out, if_pos (.inr c2)]; exact ⟨rfl, ⟨sh, hb1, rfl⟩, ⟨by omega, .inr c2⟩, ha4⟩⟩
    have p2 : ¬ (57343 : Int) < (n : Int) := by omega
    have E2 := E1.out
    rw [if_neg (by omega)] at E2
    by_cases c3 : 56320 ≤ n
    · have p3 : ¬ (n : Int) < 56320 := by omega
      rw [if_pos c3] at E2
      have E3 := Lib.hid E2
      clear E1 E2
      go_wp2_with fail
      rw [decide_eq_false (show ¬ (n : Int) < 56320 by omega)]
      refine (KN.out _).mono ?_
      rintro e w2 ⟨rfl, rfl⟩
      go_wp2_with fail
      obtain rfl := HR.out.symm.trans E3.out
      exact ⟨rfl, ho1, rfl⟩
    rw [if_neg c3] at E2
    by_cases c4 : a + 4 < t.size
    · rw [if_neg (by omega)] at E2
      have KT1 := KT.out (a + 4) w1 hb1 c4
      rw [at_get c4] at KT1
      obtain ⟨C, hC⟩ : ∃ C, at_ t.data.toList (a + 4) = C := ⟨_, rfl⟩
      rw [hC] at KT1 E2
      have KT2 := Lib.hid KT1
      by_cases c5 : C = 92
      · have e5 : ((C : Int) == 92) = true := by simp [c5]
        rw [if_neg (by simp [c5])] at E2
        clear hC c5 KT1
        by_cases c6 : a + 5 < t.size
        · rw [if_neg (by omega)] at E2
          obtain ⟨D, hD⟩ : ∃ D, at_ t.data.toList (a + 5) = D := ⟨_, rfl⟩
          have KT3 := Lib.hid (fun w h => by have := KT.out (a + 5) w h c6; rw [at_get c6, hD] at this; exact this)
          rw [hD] at E2
          by_cases c7 : D = 117
          · rw [if_neg (by simp [c7])] at E2
            have e7 : ((D : Int) == 117) = true := by simp [c7]
            obtain ⟨R2, hR2⟩ : ∃ R2, fourAt t.data.toList 4 (a + 6) 0 = R2 := ⟨_, rfl⟩
            have K42 := Lib.hid (fun w h => by have := K4.out (a + 6) w h (by omega); rw [hR2] at this; exact this)
            rw [hR2] at E2
            have E3 := Lib.hid E2
            clear E1 E2 hD c7 KT K4
            go_wp2_with fail
            rw [decide_eq_true (show (n : Int) < 56320 by omega)]
            refine (KY.out _).mono ?_
            rintro e w2 ⟨rfl, rfl⟩
            go_wp2_with fail
            refine KT2.out.mono ?_
            rintro e w3 ⟨rfl, hb3, ho3⟩
            go_wp2_with fail
            refine (KY.out _).mono ?_
            rintro e w4 ⟨rfl, rfl⟩
            go_wp2_with fail
            refine (KT3.out _ hb3).mono ?_
            rintro e w5 ⟨rfl, hb5, ho5⟩
            go_wp2_with fail
            refine (KY.out _).mono ?_
            rintro e w6 ⟨rfl, rfl⟩
            go_wp2_with fail
            refine (K42.out _ hb5).mono ?_
            rintro e w7 ⟨ho7, hr7⟩
            have hoo := ((ho1.trans ho3).trans ho5).trans ho7
            cases R2 with
            | error m =>
              obtain rfl : e = .panicked (pch (m : Int)) := hr7
              go_wp2_with fail
              obtain rfl := HR.out.symm.trans E3.out
              exact ⟨rfl, hoo, rfl⟩
            | ok m =>
              obtain ⟨rfl, hb7, hm, ha8⟩ := hr7
              have E4 := E3.out
              simp only at E4
              by_cases c8 : 56320 ≤ m
              · have p8 : (56320 : Int) ≤ (m : Int) := by omega
                by_cases c9 : m ≤ 57343
                · have p9 : (m : Int) ≤ 57343 := by omega
                  rw [if_neg (by omega)] at E4
                  have E5 := Lib.hid E4
                  clear E3 E4
                  have q1 : IntKind.i32.wrap ((n : Int) - 55296) = ((n - 55296 : Nat) : Int) := by rw [IntWalk.i32_in _ (by omega)]; omega
                  have q2 : IntKind.i32.wrap (1024 * ((n - 55296 : Nat) : Int)) = ((1024 * (n - 55296) : Nat) : Int) := by rw [IntWalk.i32_in _ (by omega)]; omega
                  have q3 : IntKind.i32.wrap (65536 + ((1024 * (n - 55296) : Nat) : Int)) = ((65536 + 1024 * (n - 55296) : Nat) : Int) := by rw [IntWalk.i32_in _ (by omega)]; omega
                  have q4 : IntKind.i32.wrap ((m : Int) - 56320) = ((m - 56320 : Nat) : Int) := by rw [IntWalk.i32_in _ (by omega)]; omega
                  have q5 : IntKind.i32.wrap (((65536 + 1024 * (n - 55296) : Nat) : Int) + ((m - 56320 : Nat) : Int)) = ((65536 + 1024 * (n - 55296) + (m - 56320) : Nat) : Int) := by rw [IntWalk.i32_in _ (by omega)]; omega
                  obtain ⟨z1, hz1⟩ : ∃ z, n - 55296 = z := ⟨_, rfl⟩
                  rw [hz1] at q1 q2 q3 q5 E5
                  obtain ⟨z2, hz2⟩ : ∃ z, 1024 * z1 = z := ⟨_, rfl⟩
                  rw [hz2] at q2 q3 q5 E5
                  obtain ⟨z3, hz3⟩ : ∃ z, 65536 + z2 = z := ⟨_, rfl⟩
                  rw [hz3] at q3 q5 E5
                  obtain ⟨z4, hz4⟩ : ∃ z, m - 56320 = z := ⟨_, rfl⟩
                  rw [hz4] at q4 q5 E5
                  obtain ⟨z5, hz5⟩ : ∃ z, z3 + z4 = z := ⟨_, rfl⟩
                  rw [hz5] at q5 E5
                  have Z := Lib.hid (And.intro hz1 (And.intro hz2 (And.intro hz3 (And.intro hz4 hz5))))
                  clear hz1 hz2 hz3 hz4 hz5
                  go_wp2_with fail
                  refine (KY.out _).mono ?_
                  rintro e w8 ⟨rfl, rfl⟩
                  go_wp2_with fail
                  go_ret
                  refine ⟨hoo, ?_⟩
                  rw [← HR.out, E5.out]
                  obtain ⟨y1, y2, y3, y4, y5⟩ := Z.out
                  exact ⟨rfl, ⟨sh, hb7, rfl⟩, ⟨by omega, by omega⟩, by omega⟩
                · have p9 : ¬ (m : Int) ≤ 57343 := by omega
                  rw [if_pos (.inr (by omega))] at E4
                  have E5 := Lib.hid E4
                  clear E3 E4
                  go_wp2_with fail
                  rw [decide_eq_false (show ¬ (m : Int) ≤ 57343 by omega)]
                  refine (KN.out _).mono ?_
                  rintro e w8 ⟨rfl, rfl⟩
                  go_wp2_with fail
                  obtain rfl := HR.out.symm.trans E5.out
                  exact ⟨rfl, hoo, rfl⟩
              · rw [if_pos (.inl (by omega))] at E4
                have E5 := Lib.hid E4
                clear E3 E4
                go_wp2_with fail
                refine (KN.out _).mono ?_
                rintro e w8 ⟨rfl, rfl⟩
                go_wp2_with fail
                obtain rfl := HR.out.symm.trans E5.out
                exact ⟨rfl, hoo, rfl⟩
          · rw [if_pos c7] at E2
            have e7 : ((D : Int) == 117) = false := by simp; omega
            have E3 := Lib.hid E2
            clear E1 E2 hD c7 KT K4
            go_wp2_with fail
            rw [decide_eq_true (show (n : Int) < 56320 by omega)]
            refine (KY.out _).mono ?_
            rintro e w2 ⟨rfl, rfl⟩
            go_wp2_with fail
            refine KT2.out.mono ?_
            rintro e w3 ⟨rfl, hb3, ho3⟩
            go_wp2_with fail
            refine (KY.out _).mono ?_
            rintro e w4 ⟨rfl, rfl⟩
            go_wp2_with fail
            refine (KT3.out _ hb3).mono ?_
            rintro e w5 ⟨rfl, hb5, ho5⟩
            go_wp2_with fail
            refine (KN.out _).mono ?_
            rintro e w6 ⟨rfl, rfl⟩
            go_wp2_with fail
            obtain rfl := HR.out.symm.trans E3.out
            exact ⟨rfl, (ho1.trans ho3).trans ho5, rfl⟩
        · rw [if_pos (by omega)] at E2
          have KU3 := Lib.hid (fun w h => KU.out (a + 5) w h (by omega))
          have E3 := Lib.hid E2
          clear E1 E2 KT K4
          go_wp2_with fail
          rw [decide_eq_true (show (n : Int) < 56320 by omega)]
          refine (KY.out _).mono ?_
          rintro e w2 ⟨rfl, rfl⟩
          go_wp2_with fail
          refine KT2.out.mono ?_
          rintro e w3 ⟨rfl, hb3, ho3⟩
          go_wp2_with fail
          refine (KY.out _).mono ?_
          rintro e w4 ⟨rfl, rfl⟩
          go_wp2_with fail
          refine (KU3.out _ hb3).mono ?_
          rintro e w5 ⟨rfl, ho5⟩
          go_wp2_with fail
          obtain rfl := HR.out.symm.trans E3.out
          exact ⟨rfl, (ho1.trans ho3).trans ho5, rfl⟩
      · have e5 : ((C : Int) == 92) = false := by simp; omega
        rw [if_pos c5] at E2
        have E3 := Lib.hid E2
        clear E1 E2 hC c5 KT1 KT K4
        go_wp2_with fail
        rw [decide_eq_true (show (n : Int) < 56320 by omega)]
        refine (KY.out _).mono ?_
        rintro e w2 ⟨rfl, rfl⟩
        go_wp2_with fail
        refine KT2.out.mono ?_
        rintro e w3 ⟨rfl, hb3, ho3⟩
        go_wp2_with fail
        refine (KN.out _).mono ?_
        rintro e w4 ⟨rfl, rfl⟩
        go_wp2_with fail
        obtain rfl := HR.out.symm.trans E3.out
        exact ⟨rfl, ho1.trans ho3, rfl⟩
    · rw [if_pos (by omega)] at E2
      have KU2 := Lib.hid (KU.out (a + 4) w1 hb1 (by omega))
      have E3 := Lib.hid E2
      clear E1 E2 KT K4
      go_wp2_with fail
      rw [decide_eq_true (show (n : Int) < 56320 by omega)]
      refine (KY.out _).mono ?_
      rintro e w2 ⟨rfl, rfl⟩
      go_wp2_with fail
      refine KU2.out.mono ?_
      rintro e w3 ⟨rfl, ho3⟩
      go_wp2_with fail
      obtain rfl := HR.out.symm.trans E3.out
      exact ⟨rfl, ho1.trans ho3, rfl⟩
theorem mean_cp {c n : Nat} (h : meanV c = some n) : isCp n := by
  unfold meanV at h
  repeat' split at h
  all_goals first | (cases h; exact ⟨by decide, by decide⟩) | cases h
/-- A reader's map is none yet, or the one of the meanings. -/
def ShOk (b : Nat) (sh : Value) (w : World) : Prop := sh = .map none ∨ ∃ m, sh = .map (some m) ∧ MeanAt m w ∧ m ≠ b ∧ m < w.heap.size
theorem ShOk.keep {b : Nat} {sh : Value} {w w' : World} (h : ShOk b sh w) (ho : Oth b w w') : ShOk b sh w' := by
  rcases h with h | ⟨m, h1, h2, h3, h4⟩
  · exact .inl h
  · exact .inr ⟨m, h1, h2.keep (ho.block m h4 h3), h3, Nat.lt_of_lt_of_le h4 ho.size⟩
theorem mapeq_none (w : World) : (binOp .eql MapT (.map none) (.map none)).run Tryd.prog w = .ok (.bool true) w := rfl
theorem mapeq_some (m : Nat) (w : World) : (binOp .eql MapT (.map (some m)) (.map none)).run Tryd.prog w = .ok (.bool false) w := rfl
set_option maxRecDepth 100000 in
set_option maxHeartbeats 4000000 in
theorem escape_any (t : ByteArray) (a b : Nat) (sh : Value) (w : World) (hb : w.heap[b]? = some (rdB t a sh)) (ht : t.size ≤ 100000) (hsh : ShOk b sh w) :
    Calls Tryd.prog 52 #[.pointer (some ⟨b, 0, none⟩)] w fun e w' => Oth b w w' ∧ OutN t b (fun s w' => ShOk b s w') e w' (escV t.data.toList a) := by
  have hbl : b < w.heap.size := (Array.getElem?_eq_some_iff.1 hb).1
  have KY := Lib.hid (fun w => must_yes 11 w)
  have KN := Lib.hid (fun w => must_no 11 w)
  have KM := Lib.hid (fun w => meanings_any w)
  obtain ⟨R, hR⟩ : ∃ R, escV t.data.toList a = R := ⟨_, rfl⟩
  rw [hR]
  have HR := Lib.hid hR
  clear hR
  have e1 : escV t.data.toList a = if t.data.toList.length ≤ a then .error 5 else if at_ t.data.toList a = 117 then numV t.data.toList (a + 1) else match meanV (at_ t.data.toList a) with
    | none => .error 11
    | some n => .ok (n, a + 1) := rfl
  rw [len_of] at e1
  by_cases c1 : a < t.size
  · rw [if_neg (by omega)] at e1
    have KT1 := take_yes t a b sh w hb ht c1
    rw [at_get c1] at KT1
    obtain ⟨C, hC⟩ : ∃ C, at_ t.data.toList a = C := ⟨_, rfl⟩
    have hC2 : C < 256 := by rw [← hC]; exact at_lt _ _
    rw [hC] at KT1 e1
    have KT := Lib.hid KT1
    have q1 : IntKind.i32.wrap (C : Int) = (C : Int) := IntWalk.i32_in _ (by omega)
    have E1 := Lib.hid e1
    clear KT1 e1 hC hb
    by_cases c2 : C = 117
    · have e2 : ((C : Int) == 117) = true := by simp [c2]
      have E2 := E1.out
      rw [if_pos c2] at E2
      have E3 := Lib.hid E2
      clear E1 E2 c2
      have KNum := Lib.hid (fun w hb => number_any t (a + 1) b sh w hb ht (by omega))
      go_enter Tryd.func52, Tryd.ntmps52
      go_wp2_with fail
      refine KT.out.mono ?_
      rintro e w1 ⟨rfl, hb1, ho1⟩
      go_wp2_with fail
      refine (KNum.out _ hb1).mono ?_
      rintro e w2 ⟨ho2, hr2⟩
      obtain rfl := HR.out.symm.trans E3.out
      cases hv : numV t.data.toList (a + 1) with
      | error m =>
        rw [hv] at hr2
        obtain rfl : e = .panicked (pch (m : Int)) := hr2
        go_wp2_with fail
        exact ⟨rfl, ho1.trans ho2, by rw [hv]; exact rfl⟩
      | ok r =>
        obtain ⟨n, a'⟩ := r
        rw [hv] at hr2
        obtain ⟨rfl, ⟨sh', hb2, rfl⟩, hcp, ha'⟩ := hr2
        go_wp2_with fail
        go_ret
        exact ⟨ho1.trans ho2, by rw [hv]; exact ⟨rfl, ⟨_, hb2, hsh.keep (ho1.trans ho2)⟩, hcp, ha'⟩⟩
    · have e2 : ((C : Int) == 117) = false := by simp; omega
      have E2 := E1.out
      rw [if_neg c2] at E2
      have E3 := Lib.hid E2
      clear E1 E2 c2
      have hz : ∀ w : World, (zeroValue 21).run Tryd.prog w = .ok (i32 0) w := Tryd.zeroValue21
      have klook : ∀ (m : Nat) (w : World), MeanAt m w → (Instr.lookup MapT (.map (some m)) (i32 (C : Int)) true).run Tryd.prog w = .ok (.tuple #[(ansV (meanV C)).1, .bool (ansV (meanV C)).2]) w := fun m w hm => by
        obtain ⟨es, ck, hmb, hl⟩ := hm.look
        obtain ⟨r, hf, hr⟩ := hl C
        have := run_look (P := Tryd.prog) (z := i32 0) Tryd.underlying71 Tryd.underlying21 hmb (key := i32 (C : Int)) rfl (hz w) hf true
        rw [if_pos rfl, hr] at this
        exact this
      have fin : ∀ (v : Value) (bo : Bool), ansV (meanV C) = (v, bo) → (bo = true ∧ ∃ n : Nat, v = i32 (n : Int) ∧ isCp n ∧ R = .ok (n, a + 1)) ∨ (bo = false ∧ v = i32 0 ∧ R = .error 11) := fun v bo hv => by
        have hRE := HR.out.symm.trans E3.out
        cases hm : meanV C with
        | none =>
          rw [hm] at hv hRE
          cases hv
          exact .inr ⟨rfl, rfl, hRE⟩
        | some n =>
          rw [hm] at hv hRE
          cases hv
          exact .inl ⟨rfl, n, rfl, mean_cp hm, hRE⟩
      obtain ⟨v, bo, hvb⟩ : ∃ v bo, ansV (meanV C) = (v, bo) := ⟨_, _, rfl⟩
      have hfin := Lib.hid (fin v bo hvb)
      rw [hvb] at klook
      simp only at klook
      have KLK := Lib.hid klook
      clear fin klook hvb
      go_enter Tryd.func52, Tryd.ntmps52
      go_wp2_with fail
      refine KT.out.mono ?_
      rintro e w1 ⟨rfl, hb1, ho1⟩
      obtain ⟨-, -, cs⟩ := rd_cells hb1
      have fs := rd_frozen hb1 2
      have hsh1 := hsh.keep ho1
      rcases hsh1 with rfl | ⟨m, rfl, hm, hmb, hml⟩
      · have hEq := mapeq_none
        go_wp2_with fail
        refine (KM.out _).mono ?_
        rintro e w2 ⟨m, rfl, hm, hml, hb2⟩
        have hbl1 : b < w1.heap.size := Nat.lt_of_lt_of_le hbl ho1.size
        have hb3 : w2.heap[b]? = some (rdB t (a + 1) (.map none)) := (hb2.block b hbl1).trans hb1
        have hmb : m ≠ b := by omega
        have hm3 : MeanAt m (w2.setCell ⟨b, 2, none⟩ (.map (some m))) := hm.keep (Below.heap_setCell w2 ⟨b, 2, none⟩ _ m hmb)
        have hlk := KLK.out m _ hm3
        obtain ⟨-, -, cs2⟩ := rd_cells hb3
        have fs2 := rd_frozen hb3 2
        have hb4 := rd_setS hb3 (.map (some m))
        obtain ⟨-, -, cs3⟩ := rd_cells hb4
        have ho3 : Oth b w (w2.setCell ⟨b, 2, none⟩ (.map (some m))) := (ho1.trans (Oth.below hb2)).setCell 2 _
        have hlm : m < (w2.setCell ⟨b, 2, none⟩ (.map (some m))).heap.size := by
          obtain ⟨es, ck, hmm, -⟩ := hm3
          exact (Array.getElem?_eq_some_iff.1 hmm).1
        clear hb3 cs fs hEq
        rcases hfin.out with ⟨rfl, n, rfl, hcp, hRn⟩ | ⟨rfl, rfl, hRn⟩
        · have HH := Lib.hid (And.intro hcp hRn)
          clear hfin hcp hRn E3
          go_wp2_with fail
          refine (KY.out _).mono ?_
          rintro e w4 ⟨rfl, rfl⟩
          go_wp2_with fail
          go_ret
          rw [HH.out.2]
          exact ⟨ho3, rfl, ⟨_, hb4, .inr ⟨m, rfl, hm3, hmb, hlm⟩⟩, HH.out.1, by omega⟩
        · have HH := Lib.hid hRn
          clear hfin hRn E3
          go_wp2_with fail
          refine (KN.out _).mono ?_
          rintro e w4 ⟨rfl, rfl⟩
          go_wp2_with fail
          rw [HH.out]
          exact ⟨rfl, ho3, rfl⟩
      · have hEq := mapeq_some m
        have hlk := KLK.out m _ hm
        rcases hfin.out with ⟨rfl, n, rfl, hcp, hRn⟩ | ⟨rfl, rfl, hRn⟩
        · have HH := Lib.hid (And.intro hcp hRn)
          clear hfin hcp hRn E3
          go_wp2_with fail
          refine (KY.out _).mono ?_
          rintro e w4 ⟨rfl, rfl⟩
          go_wp2_with fail
          go_ret
          rw [HH.out.2]
          exact ⟨ho1, rfl, ⟨_, hb1, .inr ⟨m, rfl, hm, hmb, hml⟩⟩, HH.out.1, by omega⟩
        · have HH := Lib.hid hRn
          clear hfin hRn E3
          go_wp2_with fail
          refine (KN.out _).mono ?_
          rintro e w4 ⟨rfl, rfl⟩
          go_wp2_with fail
          rw [HH.out]
          exact ⟨rfl, ho1, rfl⟩
  · rw [if_pos (by omega)] at e1
    have KU := Lib.hid (take_no t a b sh w hb ht (by omega))
    have E3 := Lib.hid e1
    clear e1
    go_enter Tryd.func52, Tryd.ntmps52
    go_wp2_with fail
    refine KU.out.mono ?_
    rintro e w1 ⟨rfl, ho1⟩
    go_wp2_with fail
    obtain rfl := HR.out.symm.trans E3.out
    exact ⟨rfl, ho1, rfl⟩
end Go.Proofs.YtcadklhjhjbhaaaDoor
