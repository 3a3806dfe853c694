/- esc (layer 4): number and escape. esc (layer 4): what a quoted text stands for; plain. The reference of layer 4: digits, four, pair, small. The reference of layer 4: pair, small, escape. The reference of layer 4: escape. -/
import Derived.Test.YtndifilhfiooaaaDoorPk04
namespace Go.Proofs.YtndifilhfiooaaaDoor
set_option maxRecDepth 20000
set_option linter.unusedSimpArgs false
set_option linter.unusedVariables false
open Go.RowKit Go.Lib Go.Shelf
attribute [local go_sem] Oper.semAt_some
/-- What \u stands for, read behind the u; and where it ends. -/
def numV (L : List UInt8) (a : Nat) : Except Nat (Nat × Nat) :=
  match fourAt L 4 a 0 with
  | .error m => .error m
  | .ok n => if n < 55296 ∨ 57343 < n then .ok (n, a + 4) else if 56320 ≤ n then .error 11 else
    if L.length ≤ a + 4 then .error 5 else if at_ L (a + 4) ≠ 92 then .error 11 else
    if L.length ≤ a + 5 then .error 5 else if at_ L (a + 5) ≠ 117 then .error 11 else
    match fourAt L 4 (a + 6) 0 with
    | .error m => .error m
    | .ok m => if m < 56320 ∨ 57343 < m then .error 11 else .ok (65536 + 1024 * (n - 55296) + (m - 56320), a + 10)
def escV (L : List UInt8) (a : Nat) : Except Nat (Nat × Nat) :=
  if L.length ≤ a then .error 5 else if at_ L a = 117 then numV L (a + 1) else match meanV (at_ L a) with
    | none => .error 11
    | some n => .ok (n, a + 1)
/-- How reading a code point ends. -/
def OutN (t : ByteArray) (b : Nat) (S : Value → World → Prop) (e : Ending) (w' : World) : Except Nat (Nat × Nat) → Prop
  | .ok (n, a') => e = .returned (.int .i32 (n : Int)) ∧ (∃ sh, w'.heap[b]? = some (rdB t a' sh) ∧ S sh w') ∧ isCp n ∧ a' ≤ t.size
  | .error m => e = .panicked (pch (m : Int))
set_option maxRecDepth 100000 in
set_option maxHeartbeats 4000000 in
theorem number_any (t : ByteArray) (a b : Nat) (sh : Value) (w : World) (hb : w.heap[b]? = some (rdB t a sh)) (ht : t.size ≤ 100000) (ha : a ≤ t.size) :
    Calls Tryd.prog 55 #[.pointer (some ⟨b, 0, none⟩)] w fun e w' => Oth b w w' ∧ OutN t b (fun s _ => s = sh) e w' (numV t.data.toList a) := by
  have K4 := Lib.hid (fun a w hb ha => four_any t a b sh w hb ht ha)
  have KT := Lib.hid (fun a w hb ha => take_yes t a b sh w hb ht ha)
  have KU := Lib.hid (fun a w hb ha => take_no t a b sh w hb ht ha)
  have KY := Lib.hid (fun w => must_yes 11 w)
  have KN := Lib.hid (fun w => must_no 11 w)
  have HB := Lib.hid hb
  clear hb
  obtain ⟨R, hR⟩ : ∃ R, numV t.data.toList a = R := ⟨_, rfl⟩
  rw [hR]
  have HR := Lib.hid hR
  clear hR
  go_enter Tryd.func55, Tryd.ntmps55
  go_wp2_with fail
  refine (K4.out a w HB.out ha).mono ?_
  rintro e w1 ⟨ho1, hr1⟩
  cases h1 : fourAt t.data.toList 4 a 0 with
  | error m =>
    rw [h1] at hr1
    obtain rfl : e = .panicked (pch (m : Int)) := hr1
    go_wp2_with fail
    exact ⟨rfl, ho1, by rw [← HR.out, numV, h1]; exact rfl⟩
  | ok n =>
    rw [h1] at hr1
    obtain ⟨rfl, hb1, hn, ha4⟩ := hr1
    have e1 : numV t.data.toList a = if n < 55296 ∨ 57343 < n then .ok (n, a + 4) else if 56320 ≤ n then .error 11 else
        if t.data.toList.length ≤ a + 4 then .error 5 else if at_ t.data.toList (a + 4) ≠ 92 then .error 11 else
        if t.data.toList.length ≤ a + 5 then .error 5 else if at_ t.data.toList (a + 5) ≠ 117 then .error 11 else
        match fourAt t.data.toList 4 (a + 6) 0 with
        | .error m => .error m
        | .ok m => if m < 56320 ∨ 57343 < m then .error 11 else .ok (65536 + 1024 * (n - 55296) + (m - 56320), a + 10) := by
      rw [numV, h1]
    rw [len_of] at e1
    have E1 := Lib.hid e1
    clear e1 h1
    by_cases c1 : n < 55296
    · have p1 : (n : Int) < 55296 := by omega
      go_wp2_with fail
      go_ret
      exact ⟨ho1, by rw [← HR.out, E1.out, if_pos (.inl c1)]; exact ⟨rfl, ⟨sh, hb1, rfl⟩, ⟨by omega, .inl c1⟩, ha4⟩⟩
    have p1 : ¬ (n : Int) < 55296 := by omega
    by_cases c2 : 57343 < n
    · have p2 : (57343 : Int) < (n : Int) := by omega
      go_wp2_with fail
      go_ret
      exact ⟨ho1, by rw [← HR.out, E1.out, if_pos (.inr c2)]; exact ⟨rfl, ⟨sh, hb1, rfl⟩, ⟨by omega, .inr c2⟩, ha4⟩⟩
    have p2 : ¬ (57343 : Int) < (n : Int) := by omega
    have E2 := E1.out
    rw [if_neg (by omega)] at E2
    by_cases c3 : 56320 ≤ n
    · have p3 : ¬ (n : Int) < 56320 := by omega
      rw [if_pos c3] at E2
      have E3 := Lib.hid E2
      clear E1 E2
      go_wp2_with fail
      rw [decide_eq_false (show ¬ (n : Int) < 56320 by omega)]
      refine (KN.out _).mono ?_
      rintro e w2 ⟨rfl, rfl⟩
      go_wp2_with fail
      obtain rfl := HR.out.symm.trans E3.out
      exact ⟨rfl, ho1, rfl⟩
    rw [if_neg c3] at E2
    by_cases c4 : a + 4 < t.size
    · rw [if_neg (by omega)] at E2
      have KT1 := KT.out (a + 4) w1 hb1 c4
      rw [at_get c4] at KT1
      obtain ⟨C, hC⟩ : ∃ C, at_ t.data.toList (a + 4) = C := ⟨_, rfl⟩
      rw [hC] at KT1 E2
      have KT2 := Lib.hid KT1
      by_cases c5 : C = 92
      · have e5 : ((C : Int) == 92) = true := by simp [c5]
        rw [if_neg (by simp [c5])] at E2
        clear hC c5 KT1
        by_cases c6 : a + 5 < t.size
        · rw [if_neg (by omega)] at E2
          obtain ⟨D, hD⟩ : ∃ D, at_ t.data.toList (a + 5) = D := ⟨_, rfl⟩
          have KT3 := Lib.hid (fun w h => by have := KT.out (a + 5) w h c6; rw [at_get c6, hD] at this; exact this)
          rw [hD] at E2
          by_cases c7 : D = 117
          · rw [if_neg (by simp [c7])] at E2
            have e7 : ((D : Int) == 117) = true := by simp [c7]
            obtain ⟨R2, hR2⟩ : ∃ R2, fourAt t.data.toList 4 (a + 6) 0 = R2 := ⟨_, rfl⟩
            have K42 := Lib.hid (fun w h => by have := K4.out (a + 6) w h (by omega); rw [hR2] at this; exact this)
            rw [hR2] at E2
            have E3 := Lib.hid E2
            clear E1 E2 hD c7 KT K4
            go_wp2_with fail
            rw [decide_eq_true (show (n : Int) < 56320 by omega)]
            refine (KY.out _).mono ?_
            rintro e w2 ⟨rfl, rfl⟩
            go_wp2_with fail
            refine KT2.out.mono ?_
            rintro e w3 ⟨rfl, hb3, ho3⟩
            go_wp2_with fail
            refine (KY.out _).mono ?_
            rintro e w4 ⟨rfl, rfl⟩
            go_wp2_with fail
            refine (KT3.out _ hb3).mono ?_
            rintro e w5 ⟨rfl, hb5, ho5⟩
            go_wp2_with fail
            refine (KY.out _).mono ?_
            rintro e w6 ⟨rfl, rfl⟩
            go_wp2_with fail
            refine (K42.out _ hb5).mono ?_
            rintro e w7 ⟨ho7, hr7⟩
            have hoo := ((ho1.trans ho3).trans ho5).trans ho7
            cases R2 with
            | error m =>
              obtain rfl : e = .panicked (pch (m : Int)) := hr7
              go_wp2_with fail
              obtain rfl := HR.out.symm.trans E3.out
              exact ⟨rfl, hoo, rfl⟩
            | ok m =>
              obtain ⟨rfl, hb7, hm, ha8⟩ := hr7
              have E4 := E3.out
              simp only at E4
              by_cases c8 : 56320 ≤ m
              · have p8 : (56320 : Int) ≤ (m : Int) := by omega
                by_cases c9 : m ≤ 57343
                · have p9 : (m : Int) ≤ 57343 := by omega
                  rw [if_neg (by omega)] at E4
                  have E5 := Lib.hid E4
                  clear E3 E4
                  have q1 : IntKind.i32.wrap ((n : Int) - 55296) = ((n - 55296 : Nat) : Int) := by rw [IntWalk.i32_in _ (by omega)]; omega
                  have q2 : IntKind.i32.wrap (1024 * ((n - 55296 : Nat) : Int)) = ((1024 * (n - 55296) : Nat) : Int) := by rw [IntWalk.i32_in _ (by omega)]; omega
                  have q3 : IntKind.i32.wrap (65536 + ((1024 * (n - 55296) : Nat) : Int)) = ((65536 + 1024 * (n - 55296) : Nat) : Int) := by rw [IntWalk.i32_in _ (by omega)]; omega
                  have q4 : IntKind.i32.wrap ((m : Int) - 56320) = ((m - 56320 : Nat) : Int) := by rw [IntWalk.i32_in _ (by omega)]; omega
                  have q5 : IntKind.i32.wrap (((65536 + 1024 * (n - 55296) : Nat) : Int) + ((m - 56320 : Nat) : Int)) = ((65536 + 1024 * (n - 55296) + (m - 56320) : Nat) : Int) := by rw [IntWalk.i32_in _ (by omega)]; omega
                  obtain ⟨z1, hz1⟩ : ∃ z, n - 55296 = z := ⟨_, rfl⟩
                  rw [hz1] at q1 q2 q3 q5 E5
                  obtain ⟨z2, hz2⟩ : ∃ z, 1024 * z1 = z := ⟨_, rfl⟩
                  rw [hz2] at q2 q3 q5 E5
                  obtain ⟨z3, hz3⟩ : ∃ z, 65536 + z2 = z := ⟨_, rfl⟩
                  rw [hz3] at q3 q5 E5
                  obtain ⟨z4, hz4⟩ : ∃ z, m - 56320 = z := ⟨_, rfl⟩
                  rw [hz4] at q4 q5 E5
                  obtain ⟨z5, hz5⟩ : ∃ z, z3 + z4 = z := ⟨_, rfl⟩
                  rw [hz5] at q5 E5
                  have Z := Lib.hid (And.intro hz1 (And.intro hz2 (And.intro hz3 (And.intro hz4 hz5))))
                  clear hz1 hz2 hz3 hz4 hz5
                  go_wp2_with fail
                  refine (KY.out _).mono ?_
                  rintro e w8 ⟨rfl, rfl⟩
                  go_wp2_with fail
                  go_ret
                  refine ⟨hoo, ?_⟩
                  rw [← HR.out, E5.out]
                  obtain ⟨y1, y2, y3, y4, y5⟩ := Z.out
                  exact ⟨rfl, ⟨sh, hb7, rfl⟩, ⟨by omega, by omega⟩, by omega⟩
                · have p9 : ¬ (m : Int) ≤ 57343 := by omega
                  rw [if_pos (.inr (by omega))] at E4
                  have E5 := Lib.hid E4
                  clear E3 E4
                  go_wp2_with fail
                  rw [decide_eq_false (show ¬ (m : Int) ≤ 57343 by omega)]
                  refine (KN.out _).mono ?_
                  rintro e w8 ⟨rfl, rfl⟩
                  go_wp2_with fail
                  obtain rfl := HR.out.symm.trans E5.out
                  exact ⟨rfl, hoo, rfl⟩
              · rw [if_pos (.inl (by omega))] at E4
                have E5 := Lib.hid E4
                clear E3 E4
                go_wp2_with fail
                refine (KN.out _).mono ?_
                rintro e w8 ⟨rfl, rfl⟩
                go_wp2_with fail
                obtain rfl := HR.out.symm.trans E5.out
                exact ⟨rfl, hoo, rfl⟩
          · rw [if_pos c7] at E2
            have e7 : ((D : Int) == 117) = false := by simp; omega
            have E3 := Lib.hid E2
            clear E1 E2 hD c7 KT K4
            go_wp2_with fail
            rw [decide_eq_true (show (n : Int) < 56320 by omega)]
            refine (KY.out _).mono ?_
            rintro e w2 ⟨rfl, rfl⟩
            go_wp2_with fail
            refine KT2.out.mono ?_
            rintro e w3 ⟨rfl, hb3, ho3⟩
            go_wp2_with fail
            refine (KY.out _).mono ?_
            rintro e w4 ⟨rfl, rfl⟩
            go_wp2_with fail
            refine (KT3.out _ hb3).mono ?_
            rintro e w5 ⟨rfl, hb5, ho5⟩
            go_wp2_with fail
            refine (KN.out _).mono ?_
            rintro e w6 ⟨rfl, rfl⟩
            go_wp2_with fail
            obtain rfl := HR.out.symm.trans E3.out
            exact ⟨rfl, (ho1.trans ho3).trans ho5, rfl⟩
        · rw [if_pos (by omega)] at E2
          have KU3 := Lib.hid (fun w h => KU.out (a + 5) w h (by omega))
          have E3 := Lib.hid E2
          clear E1 E2 KT K4
          go_wp2_with fail
          rw [decide_eq_true (show (n : Int) < 56320 by omega)]
          refine (KY.out _).mono ?_
          rintro e w2 ⟨rfl, rfl⟩
          go_wp2_with fail
          refine KT2.out.mono ?_
          rintro e w3 ⟨rfl, hb3, ho3⟩
          go_wp2_with fail
          refine (KY.out _).mono ?_
          rintro e w4 ⟨rfl, rfl⟩
          go_wp2_with fail
          refine (KU3.out _ hb3).mono ?_
          rintro e w5 ⟨rfl, ho5⟩
          go_wp2_with fail
          obtain rfl := HR.out.symm.trans E3.out
          exact ⟨rfl, (ho1.trans ho3).trans ho5, rfl⟩
      · have e5 : ((C : Int) == 92) = false := by simp; omega
        rw [if_pos c5] at E2
        have E3 := Lib.hid E2
        clear E1 E2 hC c5 KT1 KT K4
        go_wp2_with fail
        rw [decide_eq_true (show (n : Int) < 56320 by omega)]
        refine (KY.out _).mono ?_
        rintro e w2 ⟨rfl, rfl⟩
        go_wp2_with fail
        refine KT2.out.mono ?_
        rintro e w3 ⟨rfl, hb3, ho3⟩
        go_wp2_with fail
        refine (KN.out _).mono ?_
        rintro e w4 ⟨rfl, rfl⟩
        go_wp2_with fail
        obtain rfl := HR.out.symm.trans E3.out
        exact ⟨rfl, ho1.trans ho3, rfl⟩
    · rw [if_pos (by omega)] at E2
      have KU2 := Lib.hid (KU.out (a + 4) w1 hb1 (by omega))
      have E3 := Lib.hid E2
      clear E1 E2 KT K4
      go_wp2_with fail
      rw [decide_eq_true (show (n : Int) < 56320 by omega)]
      refine (KY.out _).mono ?_
      rintro e w2 ⟨rfl, rfl⟩
      go_wp2_with fail
      refine KU2.out.mono ?_
      rintro e w3 ⟨rfl, ho3⟩
      go_wp2_with fail
      obtain rfl := HR.out.symm.trans E3.out
      exact ⟨rfl, ho1.trans ho3, rfl⟩
theorem mean_cp {c n : Nat} (h : meanV c = some n) : isCp n := by
  unfold meanV at h
  repeat' split at h
  all_goals first | (cases h; exact ⟨by decide, by decide⟩) | cases h
/-- A reader's map is none yet, or the one of the meanings. -/
def ShOk (b : Nat) (sh : Value) (w : World) : Prop := sh = .map none ∨ ∃ m, sh = .map (some m) ∧ MeanAt m w ∧ m ≠ b ∧ m < w.heap.size
theorem ShOk.keep {b : Nat} {sh : Value} {w w' : World} (h : ShOk b sh w) (ho : Oth b w w') : ShOk b sh w' := by
  rcases h with h | ⟨m, h1, h2, h3, h4⟩
  · exact .inl h
  · exact .inr ⟨m, h1, h2.keep (ho.block m h4 h3), h3, Nat.lt_of_lt_of_le h4 ho.size⟩
theorem mapeq_none (w : World) : (binOp .eql MapT (.map none) (.map none)).run Tryd.prog w = .ok (.bool true) w := rfl
theorem mapeq_some (m : Nat) (w : World) : (binOp .eql MapT (.map (some m)) (.map none)).run Tryd.prog w = .ok (.bool false) w := rfl
set_option maxRecDepth 100000 in
set_option maxHeartbeats 4000000 in
theorem escape_any (t : ByteArray) (a b : Nat) (sh : Value) (w : World) (hb : w.heap[b]? = some (rdB t a sh)) (ht : t.size ≤ 100000) (hsh : ShOk b sh w) :
    Calls Tryd.prog 50 #[.pointer (some ⟨b, 0, none⟩)] w fun e w' => Oth b w w' ∧ OutN t b (fun s w' => ShOk b s w') e w' (escV t.data.toList a) := by
  have hbl : b < w.heap.size := (Array.getElem?_eq_some_iff.1 hb).1
  have KY := Lib.hid (fun w => must_yes 11 w)
  have KN := Lib.hid (fun w => must_no 11 w)
  have KM := Lib.hid (fun w => meanings_any w)
  obtain ⟨R, hR⟩ : ∃ R, escV t.data.toList a = R := ⟨_, rfl⟩
  rw [hR]
  have HR := Lib.hid hR
  clear hR
  have e1 : escV t.data.toList a = if t.data.toList.length ≤ a then .error 5 else if at_ t.data.toList a = 117 then numV t.data.toList (a + 1) else match meanV (at_ t.data.toList a) with
    | none => .error 11
    | some n => .ok (n, a + 1) := rfl
  rw [len_of] at e1
  by_cases c1 : a < t.size
  · rw [if_neg (by omega)] at e1
    have KT1 := take_yes t a b sh w hb ht c1
    rw [at_get c1] at KT1
    obtain ⟨C, hC⟩ : ∃ C, at_ t.data.toList a = C := ⟨_, rfl⟩
    have hC2 : C < 256 := by rw [← hC]; exact at_lt _ _
    rw [hC] at KT1 e1
    have KT := Lib.hid KT1
    have q1 : IntKind.i32.wrap (C : Int) = (C : Int) := IntWalk.i32_in _ (by omega)
    have E1 := Lib.hid e1
    clear KT1 e1 hC hb
    by_cases c2 : C = 117
    · have e2 : ((C : Int) == 117) = true := by simp [c2]
      have E2 := E1.out
      rw [if_pos c2] at E2
      have E3 := Lib.hid E2
      clear E1 E2 c2
      have KNum := Lib.hid (fun w hb => number_any t (a + 1) b sh w hb ht (by omega))
      go_enter Tryd.func50, Tryd.ntmps50
      go_wp2_with fail
      refine KT.out.mono ?_
      rintro e w1 ⟨rfl, hb1, ho1⟩
      go_wp2_with fail
      refine (KNum.out _ hb1).mono ?_
      rintro e w2 ⟨ho2, hr2⟩
      obtain rfl := HR.out.symm.trans E3.out
      cases hv : numV t.data.toList (a + 1) with
      | error m =>
        rw [hv] at hr2
        obtain rfl : e = .panicked (pch (m : Int)) := hr2
        go_wp2_with fail
        exact ⟨rfl, ho1.trans ho2, by rw [hv]; exact rfl⟩
      | ok r =>
        obtain ⟨n, a'⟩ := r
        rw [hv] at hr2
        obtain ⟨rfl, ⟨sh', hb2, rfl⟩, hcp, ha'⟩ := hr2
        go_wp2_with fail
        go_ret
        exact ⟨ho1.trans ho2, by rw [hv]; exact ⟨rfl, ⟨_, hb2, hsh.keep (ho1.trans ho2)⟩, hcp, ha'⟩⟩
    · have e2 : ((C : Int) == 117) = false := by simp; omega
      have E2 := E1.out
      rw [if_neg c2] at E2
      have E3 := Lib.hid E2
      clear E1 E2 c2
      have hz : ∀ w : World, (zeroValue 21).run Tryd.prog w = .ok (i32 0) w := Tryd.zeroValue21
      have klook : ∀ (m : Nat) (w : World), MeanAt m w → (Instr.lookup MapT (.map (some m)) (i32 (C : Int)) true).run Tryd.prog w = .ok (.tuple #[(ansV (meanV C)).1, .bool (ansV (meanV C)).2]) w := fun m w hm => by
        obtain ⟨es, ck, hmb, hl⟩ := hm.look
        obtain ⟨r, hf, hr⟩ := hl C
        have := run_look (P := Tryd.prog) (z := i32 0) Tryd.underlying82 Tryd.underlying21 hmb (key := i32 (C : Int)) rfl (hz w) hf true
        rw [if_pos rfl, hr] at this
        exact this
      have fin : ∀ (v : Value) (bo : Bool), ansV (meanV C) = (v, bo) → (bo = true ∧ ∃ n : Nat, v = i32 (n : Int) ∧ isCp n ∧ R = .ok (n, a + 1)) ∨ (bo = false ∧ v = i32 0 ∧ R = .error 11) := fun v bo hv => by
        have hRE := HR.out.symm.trans E3.out
        cases hm : meanV C with
        | none =>
          rw [hm] at hv hRE
          cases hv
          exact .inr ⟨rfl, rfl, hRE⟩
        | some n =>
          rw [hm] at hv hRE
          cases hv
          exact .inl ⟨rfl, n, rfl, mean_cp hm, hRE⟩
      obtain ⟨v, bo, hvb⟩ : ∃ v bo, ansV (meanV C) = (v, bo) := ⟨_, _, rfl⟩
      have hfin := Lib.hid (fin v bo hvb)
      rw [hvb] at klook
      simp only at klook
      have KLK := Lib.hid klook
      clear fin klook hvb
      go_enter Tryd.func50, Tryd.ntmps50
      go_wp2_with fail
      refine KT.out.mono ?_
      rintro e w1 ⟨rfl, hb1, ho1⟩
      obtain ⟨-, -, cs⟩ := rd_cells hb1
      have fs := rd_frozen hb1 2
      have hsh1 := hsh.keep ho1
      rcases hsh1 with rfl | ⟨m, rfl, hm, hmb, hml⟩
      · have hEq := mapeq_none
        go_wp2_with fail
        refine (KM.out _).mono ?_
        rintro e w2 ⟨m, rfl, hm, hml, hb2⟩
        have hbl1 : b < w1.heap.size := Nat.lt_of_lt_of_le hbl ho1.size
        have hb3 : w2.heap[b]? = some (rdB t (a + 1) (.map none)) := (hb2.block b hbl1).trans hb1
        have hmb : m ≠ b := by omega
        have hm3 : MeanAt m (w2.setCell ⟨b, 2, none⟩ (.map (some m))) := hm.keep (Below.heap_setCell w2 ⟨b, 2, none⟩ _ m hmb)
        have hlk := KLK.out m _ hm3
        obtain ⟨-, -, cs2⟩ := rd_cells hb3
        have fs2 := rd_frozen hb3 2
        have hb4 := rd_setS hb3 (.map (some m))
        obtain ⟨-, -, cs3⟩ := rd_cells hb4
        have ho3 : Oth b w (w2.setCell ⟨b, 2, none⟩ (.map (some m))) := (ho1.trans (Oth.below hb2)).setCell 2 _
        have hlm : m < (w2.setCell ⟨b, 2, none⟩ (.map (some m))).heap.size := by
          obtain ⟨es, ck, hmm, -⟩ := hm3
          exact (Array.getElem?_eq_some_iff.1 hmm).1
        clear hb3 cs fs hEq
        rcases hfin.out with ⟨rfl, n, rfl, hcp, hRn⟩ | ⟨rfl, rfl, hRn⟩
        · have HH := Lib.hid (And.intro hcp hRn)
          clear hfin hcp hRn E3
          go_wp2_with fail
          refine (KY.out _).mono ?_
          rintro e w4 ⟨rfl, rfl⟩
          go_wp2_with fail
          go_ret
          rw [HH.out.2]
          exact ⟨ho3, rfl, ⟨_, hb4, .inr ⟨m, rfl, hm3, hmb, hlm⟩⟩, HH.out.1, by omega⟩
        · have HH := Lib.hid hRn
          clear hfin hRn E3
          go_wp2_with fail
          refine (KN.out _).mono ?_
          rintro e w4 ⟨rfl, rfl⟩
          go_wp2_with fail
          rw [HH.out]
          exact ⟨rfl, ho3, rfl⟩
      · have hEq := mapeq_some m
        have hlk := KLK.out m _ hm
        rcases hfin.out with ⟨rfl, n, rfl, hcp, hRn⟩ | ⟨rfl, rfl, hRn⟩
        · have HH := Lib.hid (And.intro hcp hRn)
          clear hfin hcp hRn E3
          go_wp2_with fail
          refine (KY.out _).mono ?_
          rintro e w4 ⟨rfl, rfl⟩
          go_wp2_with fail
          go_ret
          rw [HH.out.2]
          exact ⟨ho1, rfl, ⟨_, hb1, .inr ⟨m, rfl, hm, hmb, hml⟩⟩, HH.out.1, by omega⟩
        · have HH := Lib.hid hRn
          clear hfin hRn E3
          go_wp2_with fail
          refine (KN.out _).mono ?_
          rintro e w4 ⟨rfl, rfl⟩
          go_wp2_with fail
          rw [HH.out]
          exact ⟨rfl, ho1, rfl⟩
  · rw [if_pos (by omega)] at e1
    have KU := Lib.hid (take_no t a b sh w hb ht (by omega))
    have E3 := Lib.hid e1
    clear e1
    go_enter Tryd.func50, Tryd.ntmps50
    go_wp2_with fail
    refine KU.out.mono ?_
    rintro e w1 ⟨rfl, ho1⟩
    go_wp2_with fail
    obtain rfl := HR.out.symm.trans E3.out
    exact ⟨rfl, ho1, rfl⟩
end Go.Proofs.YtndifilhfiooaaaDoor
namespace Go.Proofs.YtndifilhfiooaaaDoor
set_option maxRecDepth 20000
set_option linter.unusedSimpArgs false
set_option linter.unusedVariables false
open Go.RowKit Go.Lib Go.Shelf
attribute [local go_sem] Oper.semAt_some
def pre (P : List UInt8) : Except Nat (List UInt8 × Nat) → Except Nat (List UInt8 × Nat)
  | .ok (s, a) => .ok (P ++ s, a)
  | .error m => .error m
theorem pre_pre (P Q : List UInt8) (r : Except Nat (List UInt8 × Nat)) : pre P (pre Q r) = pre (P ++ Q) r := by
  cases r with
  | error m => rfl
  | ok x => obtain ⟨s, a⟩ := x; simp [pre]
theorem pre_nil (r : Except Nat (List UInt8 × Nat)) : pre [] r = r := by
  cases r with
  | error m => rfl
  | ok x => rfl
/-- What stands from a place on up to a quotation mark, and the place behind that. -/
def unq (L : List UInt8) (i : Nat) : Except Nat (List UInt8 × Nat) :=
  if L.length ≤ i then .error 5 else if at_ L i = 34 then .ok ([], i + 1) else if at_ L i < 32 then .error 6 else
  if at_ L i = 92 then match escV L (i + 1) with
    | .error m => .error m
    | .ok (n, a) => if i < a then pre (form n) (unq L a) else .error 0
  else match nx (L.drop i) with
    | none => .error 10
    | some (_, k) => if 0 < k then pre ((L.drop i).take k) (unq L (i + k)) else .error 0
termination_by L.length - i
theorem num_lt {L : List UInt8} {a n a' : Nat} (h : numV L a = .ok (n, a')) : a < a' := by
  unfold numV at h
  split at h
  · cases h
  · split at h
    · cases h; omega
    · repeat' (split at h; · cases h)
      have := (Prod.mk.inj (Except.ok.inj h)).2
      omega
theorem esc_lt {L : List UInt8} {a n a' : Nat} (h : escV L a = .ok (n, a')) : a < a' := by
  unfold escV at h
  split at h
  · cases h
  · split at h
    · have := num_lt h; omega
    · split at h
      · cases h
      · cases h; omega
section
variable {L : List UInt8} {i : Nat}
theorem unq_end (h : L.length ≤ i) : unq L i = .error 5 := by rw [unq, if_pos h]
theorem unq_quote (h : i < L.length) (hc : at_ L i = 34) : unq L i = .ok ([], i + 1) := by rw [unq, if_neg (by omega), if_pos hc]
theorem unq_low (h : i < L.length) (hc : at_ L i < 32) : unq L i = .error 6 := by rw [unq, if_neg (by omega), if_neg (by omega), if_pos hc]
theorem unq_esc (h : i < L.length) (hc : at_ L i = 92) : unq L i = match escV L (i + 1) with | .error m => .error m | .ok (n, a) => pre (form n) (unq L a) := by
  rw [unq, if_neg (by omega), if_neg (by omega), if_neg (by omega), if_pos hc]
  cases he : escV L (i + 1) with
  | error m => rfl
  | ok r =>
    obtain ⟨n, a⟩ := r
    have := esc_lt he
    simp only
    rw [if_pos (by omega)]
theorem unq_cp (h : i < L.length) (h1 : at_ L i ≠ 34) (h2 : 32 ≤ at_ L i) (h3 : at_ L i ≠ 92) : unq L i = match nx (L.drop i) with | none => .error 10 | some (_, k) => pre ((L.drop i).take k) (unq L (i + k)) := by
  rw [unq, if_neg (by omega), if_neg h1, if_neg (by omega), if_neg h3]
  cases he : nx (L.drop i) with
  | none => rfl
  | some r =>
    obtain ⟨n, k⟩ := r
    have := (nx_lt he).2
    simp only
    rw [if_pos (by omega)]
end
/-- A stretch of bytes. -/
def seg (L : List UInt8) (a i : Nat) : List UInt8 := (L.drop a).take (i - a)
theorem seg_nil (L : List UInt8) (a : Nat) : seg L a a = [] := by simp [seg]
theorem seg_add (L : List UInt8) {a i k : Nat} (h : a ≤ i) : seg L a i ++ (L.drop i).take k = seg L a (i + k) := by
  unfold seg
  rw [show i + k - a = (i - a) + k by omega, List.take_add, List.drop_drop, show a + (i - a) = i by omega]
def TabsO (b : Nat) (w : World) : Prop := Tabs w ∧ Tryd.lays197_ren.g 3 ≠ b ∧ Tryd.lays197_ren.g 4 ≠ b
theorem TabsO.keep {b : Nat} {w w' : World} (h : TabsO b w) (ho : Oth b w w') : TabsO b w' := by
  obtain ⟨h, n3, n4⟩ := h
  obtain ⟨z3, z4⟩ := tabs_size h
  refine ⟨⟨fun c hc => ?_, fun i hi => ⟨?_, ?_⟩⟩, n3, n4⟩
  · rw [World.cell?_of_block (ho.block _ z3 n3)]; exact h.1 c hc
  · rw [World.cell?_of_block (ho.block _ z4 n4)]; exact (h.2 i hi).1
  · rw [World.cell?_of_block (ho.block _ z4 n4)]; exact (h.2 i hi).2
/-- How plain ends. -/
def OutP (t : ByteArray) (a b : Nat) (sh : Value) (e : Ending) (w' : World) : Prop :=
  (∃ i, a ≤ i ∧ i < t.size ∧ (at_ t.data.toList i = 34 ∨ at_ t.data.toList i = 92) ∧ e = .returned (.string ⟨(seg t.data.toList a i).toArray⟩) ∧ w'.heap[b]? = some (rdB t i sh) ∧ unq t.data.toList a = pre (seg t.data.toList a i) (unq t.data.toList i)) ∨
  ∃ m : Nat, e = .panicked (pch (m : Int)) ∧ unq t.data.toList a = .error m
theorem ext_seg (t : ByteArray) {a i : Nat} (h : a ≤ i) : t.extract a i = ⟨(seg t.data.toList a i).toArray⟩ := by
  have := extract_mid t a (i - a)
  rw [show a + (i - a) = i by omega] at this
  exact this
set_option maxRecDepth 100000 in
set_option maxHeartbeats 4000000 in
theorem plain_any (t : ByteArray) (a b : Nat) (sh : Value) (w : World) (hb : w.heap[b]? = some (rdB t a sh)) (ht : t.size ≤ 100000) (ha : a ≤ t.size) (hT : TabsO b w) :
    Calls Tryd.prog 47 #[.pointer (some ⟨b, 0, none⟩)] w fun e w' => Oth b w w' ∧ OutP t a b sh e w' := by
  obtain ⟨L, hL⟩ : ∃ L, t.data.toList = L := ⟨_, rfl⟩
  have hlen : L.length = t.size := by rw [← hL]; exact len_of t
  obtain ⟨-, c1, -⟩ := rd_cells hb
  go_enter Tryd.func47, Tryd.ntmps47
  go_wp2_with fail
  go_loopw [] (fun wr => ∃ i : Nat, a ≤ i ∧ i ≤ t.size ∧ wr.heap[b]? = some (rdB t i sh) ∧ Oth b w wr ∧ unq L a = pre (seg L a i) (unq L i)) (fun wr => match wr.cell? ⟨b, 1, none⟩ with | some v => t.size - (RowKit.intOf v).toNat | none => 0)
  case atStart => exact ⟨a, Nat.le_refl _, ha, hb, Oth.refl b w, by rw [seg_nil, pre_nil]⟩
  case round =>
    obtain ⟨i, hai, his, hbi, hO, hU⟩ := hrel
    obtain ⟨r0, r1, -⟩ := rd_cells hbi
    have f1 := rd_frozen hbi 1
    have hm : Tryd.prog.follows .mixedOrders = true := by kernel_rfl
    by_cases hs : i < t.size
    · have p1 : (i : Int) < (t.size : Int) := by omega
      have KY5 := Lib.hid (fun w => must_yes 5 w)
      have hg := at_get hs
      rw [hL] at hg
      obtain ⟨C, hC⟩ : ∃ C, at_ L i = C := ⟨_, rfl⟩
      have hC2 : C < 256 := by rw [← hC]; exact at_lt _ _
      rw [hC] at hg
      have HU := Lib.hid hU
      have HO := Lib.hid hO
      have HB := Lib.hid hbi
      clear hU hO hbi c1 hb
      by_cases c34 : C = 34 ∨ C = 92
      · have HX := Lib.hid (ext_seg t hai)
        rw [hL] at HX
        have q1 : (a : Int) ≤ (i : Int) := by omega
        have q2 : (i : Int) ≤ (t.size : Int) := by omega
        have HC := Lib.hid hC
        clear hC
        have fin : ∀ w', Oth b wr w' → w'.heap[b]? = wr.heap[b]? → Oth b w w' ∧ OutP t a b sh (.returned (.string (t.extract a i))) w' := fun w' h1 h2 => ⟨HO.out.trans h1, .inl ⟨i, hai, hs, by rw [hL, HC.out]; exact c34, by rw [HX.out, hL], h2.trans HB.out, by rw [hL]; exact HU.out⟩⟩
        rcases c34 with rfl | rfl
        · go_wp2_with (go_quiet ((go_at_call 41; exact Calls.quiet_of_same (KY5.out _))))
          go_ret
          exact fin _ (((Oth.refl b wr).drewN _).drewN _) rfl
        · go_wp2_with (go_quiet ((go_at_call 41; exact Calls.quiet_of_same (KY5.out _))))
          go_ret
          exact fin _ (((Oth.refl b wr).drewN _).drewN _) rfl
      · have n34 : C ≠ 34 := fun h => c34 (.inl h)
        have n92 : C ≠ 92 := fun h => c34 (.inr h)
        have e34 : ((C : Int) == 34) = false := by simp; omega
        have e92 : ((C : Int) == 92) = false := by simp; omega
        have hi' : i < L.length := by omega
        by_cases c32 : 32 ≤ C
        · have hU2 := unq_cp hi' (by rw [hC]; exact n34) (by rw [hC]; exact c32) (by rw [hC]; exact n92)
          have HU2 := Lib.hid hU2
          clear hU2
          have KY6 := Lib.hid (fun w => must_yes 6 w)
          have KY10 := Lib.hid (fun w => must_yes 10 w)
          have KN10 := Lib.hid (fun w => must_no 10 w)
          have hTr := hT.keep HO.out
          have hN := fun w hT => next_any t (i : Int) w hT
          rw [hL, nextV_nat] at hN
          have KNx := Lib.hid hN
          have p32 : (32 : Int) ≤ (C : Int) := by omega
          clear hN hC c34 n34 n92
          go_wp2_with (go_quiet ((go_at_call 41; exact Calls.quiet_of_same (KY5.out _))))
          refine (KY6.out _).mono ?_
          rintro e w1 ⟨rfl, hw1⟩
          have z0 : w1.cell? ⟨b, 0, none⟩ = some (.string t) := by rw [hw1]; exact r0
          have z1 : w1.cell? ⟨b, 1, none⟩ = some (.int .i64 (i : Int)) := by rw [hw1]; exact r1
          have g1 : w1.heap[b]? = some (rdB t i sh) := by rw [hw1]; exact HB.out
          have ho1 : Oth b wr w1 := by rw [hw1]; exact (Oth.refl b wr).drewN _
          have hT1 := hTr.keep ho1
          clear hw1 hTr hg r0 r1 f1
          cases hx : nx (L.drop i) with
          | none =>
            rw [hx] at KNx HU2
            simp only [retN] at KNx
            go_wp2_with fail
            have d0 := fun d os => cell_regrown z0 d os
            have d1 := fun d os => cell_regrown z1 d os
            have kn := Lib.hid (fun d os => KNx.out (Sort.grow (redrawn w1 d) os) (tabs_low (tabs_size hT1.1) hT1.1 (below_regrown w1 d os)))
            refine wp_region_quiet_below hm (by kernel_rfl) ?_
            repeat (go_big_quiet_step (first | (go_at_call 52; exact Calls.regrown_of (kn.out _ _))))
            refine wpQuiet_nil ?_
            intro W hW
            have hbW : Below w1.heap.size w1 W := by obtain ⟨p, rfl⟩ := hW; exact below_regrown _ _ _
            have hoo := (HO.out.trans ho1).trans (Oth.below hbW)
            clear hW d0 d1
            go_wp2_with fail
            refine (KN10.out _).mono ?_
            rintro e w2 ⟨rfl, rfl⟩
            go_wp2_with fail
            exact ⟨rfl, hoo, .inr ⟨10, rfl, by rw [hL, HU.out, HU2.out]; exact rfl⟩⟩
          | some r =>
            obtain ⟨n, k⟩ := r
            rw [hx] at KNx HU2
            simp only [retN] at KNx HU2
            obtain ⟨hk1, hk2, hk3⟩ := nx_pos hx
            rw [List.length_drop] at hk2
            have q3 : IntKind.i64.wrap ((i : Int) + (k : Int)) = (i : Int) + (k : Int) := IntWalk.i64_in _ (by omega)
            have HQ := Lib.hid q3
            clear q3
            go_wp2_with fail
            have d0 := fun d os => cell_regrown z0 d os
            have d1 := fun d os => cell_regrown z1 d os
            have kn := Lib.hid (fun d os => KNx.out (Sort.grow (redrawn w1 d) os) (tabs_low (tabs_size hT1.1) hT1.1 (below_regrown w1 d os)))
            refine wp_region_quiet_below hm (by kernel_rfl) ?_
            repeat (go_big_quiet_step (first | (go_at_call 52; exact Calls.regrown_of (kn.out _ _))))
            refine wpQuiet_nil ?_
            intro W hW
            have hbW : Below w1.heap.size w1 W := by obtain ⟨p, rfl⟩ := hW; exact below_regrown _ _ _
            have hoo := (HO.out.trans ho1).trans (Oth.below hbW)
            have gW : W.heap[b]? = some (rdB t i sh) := (hbW.block b (Array.getElem?_eq_some_iff.1 g1).1).trans g1
            obtain ⟨-, y1, -⟩ := rd_cells gW
            have fW := rd_frozen gW 1
            have q3 := HQ.out
            have g2 := rd_set gW (i + k)
            have ho2 := hoo.setCell 1 (.int .i64 ((i + k : Nat) : Int))
            have hm1 : (wr.cell? ⟨b, 1, none⟩) = some (.int .i64 (i : Int)) := (rd_cells HB.out).2.1
            have hm2 := (rd_cells g2).2.1
            have HH := Lib.hid (And.intro g2 (And.intro ho2 (And.intro hm1 hm2)))
            clear hW d0 d1 g2 ho2 hm1 hm2 z0 z1 g1
            go_wp2_with fail
            refine (KY10.out _).mono ?_
            rintro e w2 ⟨rfl, rfl⟩
            go_wp2_with fail
            go_roundw
            case rel => exact ⟨i + k, by omega, by omega, HH.out.1, HH.out.2.1, by rw [HU.out, HU2.out, pre_pre, seg_add L hai]⟩
            case measure =>
              rw [HH.out.2.2.1]
              have e2 := HH.out.2.2.2
              rw [Int.natCast_add] at e2
              rw [e2]
              simp only [RowKit.intOf]
              omega
        · have KN6 := Lib.hid (fun w => must_no 6 w)
          have HC := Lib.hid hC
          clear hC c34
          go_wp2_with (go_quiet ((go_at_call 41; exact Calls.quiet_of_same (KY5.out _))))
          rw [decide_eq_false (show ¬ (32 : Int) ≤ (C : Int) by omega)]
          refine (KN6.out _).mono ?_
          rintro e w1 ⟨rfl, hw1⟩
          have ho1 : Oth b wr w1 := by rw [hw1]; exact (Oth.refl b wr).drewN _
          clear hw1
          go_wp2_with fail
          exact ⟨rfl, HO.out.trans ho1, .inr ⟨6, rfl, by rw [hL, HU.out, unq_low hi' (by rw [HC.out]; omega)]; exact rfl⟩⟩
    · have q1 : ¬ (i : Int) < (t.size : Int) := by omega
      have KN5 := Lib.hid (fun w => must_no 5 w)
      have d0 := fun d os => cell_regrown r0 d os
      have d1 := fun d os => cell_regrown r1 d os
      clear hb hbi c1
      go_upto_region 2 with fail
      refine wp_region_inw 10 hm (by decide) (by kernel_rfl) (by kernel_rfl) ?_
      repeat (refine inw_val (v := ?_) (by rfl) (by rfl) (fun d os => ?_) ?_; rotate_left; (focus (go_simp; (try with_reducible rfl); done)); simp only [nm0, nm1, nm2, nm3])
      refine inw_panic (n := 10) (f := 41) ?hr rfl ?hw rfl (fun W => ?he) KN5.out (fun W hW => ?hk)
      case hr => decide +kernel
      case hw => rfl
      case he => go_simp
      case hk =>
        go_wp2_with fail
        exact ⟨rfl, hO.trans (Oth.below hW), .inr ⟨5, rfl, by rw [hL, hU, unq_end (by omega)]; exact rfl⟩⟩
end Go.Proofs.YtndifilhfiooaaaDoor
namespace Go.Proofs.YtndifilhfiooaaaDoor
set_option maxRecDepth 20000
set_option linter.unusedSimpArgs false
set_option linter.unusedVariables false
open Go.RowKit Go.Lib Go.Shelf
attribute [local go_sem] Oper.semAt_some
set_option maxRecDepth 100000 in
theorem rdigit_any (c : Nat) (hc : c < 256) (w : World) : Calls Tryd.prog 45 #[.int .u8 (c : Int)] w fun e w' => e = .returned (.int .i64 (hexI c)) ∧ w' = w := by
  obtain ⟨R, hR⟩ : ∃ R, hexI c = R := ⟨_, rfl⟩
  rw [hR]
  have HR := Lib.hid hR
  clear hR
  by_cases h1 : 48 ≤ c ∧ c ≤ 57
  · have e : R = ((c - 48 : Nat) : Int) := by rw [← HR.out]; unfold hexI hexv; rw [if_pos h1]
    have p1 : (48 : Int) ≤ (c : Int) := by omega
    have p2 : (c : Int) ≤ 57 := by omega
    have q1 : IntKind.u8.wrap ((c : Int) - 48) = ((c - 48 : Nat) : Int) := by rw [IntWalk.u8_in _ (by omega)]; omega
    have q2 : IntKind.i64.wrap ((c - 48 : Nat) : Int) = ((c - 48 : Nat) : Int) := IntWalk.i64_in _ (by omega)
    rw [← e] at q1 q2
    clear e
    go_enter Tryd.func45, Tryd.ntmps45
    go_wp2_with fail
    go_ret
    exact ⟨rfl, rfl⟩
  · by_cases h2 : 97 ≤ c ∧ c ≤ 102
    · have e : R = ((c - 87 : Nat) : Int) := by rw [← HR.out]; unfold hexI hexv; rw [if_neg h1, if_pos h2]
      have p1 : (48 : Int) ≤ (c : Int) := by omega
      have p2 : ¬ (c : Int) ≤ 57 := by omega
      have p3 : (97 : Int) ≤ (c : Int) := by omega
      have p4 : (c : Int) ≤ 102 := by omega
      have q1 : IntKind.u8.wrap ((c : Int) - 97) = ((c - 97 : Nat) : Int) := by rw [IntWalk.u8_in _ (by omega)]; omega
      have q2 : IntKind.i64.wrap ((c - 97 : Nat) : Int) = ((c - 97 : Nat) : Int) := IntWalk.i64_in _ (by omega)
      have q3 : IntKind.i64.wrap (((c - 97 : Nat) : Int) + 10) = R := by rw [IntWalk.i64_in _ (by omega), e]; omega
      obtain ⟨z, hz⟩ : ∃ z, c - 97 = z := ⟨_, rfl⟩
      rw [hz] at q1 q2 q3
      clear e hz
      go_enter Tryd.func45, Tryd.ntmps45
      go_wp2_with fail
      go_ret
      exact ⟨rfl, rfl⟩
    · by_cases h3 : 65 ≤ c ∧ c ≤ 70
      · have e : R = ((c - 55 : Nat) : Int) := by rw [← HR.out]; unfold hexI hexv; rw [if_neg h1, if_neg h2, if_pos h3]
        have p1 : (48 : Int) ≤ (c : Int) := by omega
        have p2 : ¬ (c : Int) ≤ 57 := by omega
        have p3 : ¬ (97 : Int) ≤ (c : Int) := by omega
        have p5 : (65 : Int) ≤ (c : Int) := by omega
        have p6 : (c : Int) ≤ 70 := by omega
        have q1 : IntKind.u8.wrap ((c : Int) - 65) = ((c - 65 : Nat) : Int) := by rw [IntWalk.u8_in _ (by omega)]; omega
        have q2 : IntKind.i64.wrap ((c - 65 : Nat) : Int) = ((c - 65 : Nat) : Int) := IntWalk.i64_in _ (by omega)
        have q3 : IntKind.i64.wrap (((c - 65 : Nat) : Int) + 10) = R := by rw [IntWalk.i64_in _ (by omega), e]; omega
        obtain ⟨z, hz⟩ : ∃ z, c - 65 = z := ⟨_, rfl⟩
        rw [hz] at q1 q2 q3
        clear e hz
        go_enter Tryd.func45, Tryd.ntmps45
        go_wp2_with fail
        go_ret
        exact ⟨rfl, rfl⟩
      · have e : R = -1 := by rw [← HR.out]; unfold hexI hexv; rw [if_neg h1, if_neg h2, if_neg h3]
        subst e
        have HN := Lib.hid (And.intro h1 (And.intro h2 h3))
        clear h1 h2 h3
        go_enter Tryd.func45, Tryd.ntmps45
        go_wp2_with fail
        all_goals first
          | (exfalso; have := HN.out; omega)
          | (go_ret; exact ⟨rfl, rfl⟩)
def ans4 : Except Nat Nat → Nat × Nat
  | .ok n => (n, 0)
  | .error m => (0, m)
set_option maxRecDepth 100000 in
set_option maxHeartbeats 4000000 in
theorem rfour_any (t : ByteArray) (a : Nat) (w : World) (ht : t.size ≤ 100000) (ha : a ≤ 200000) :
    Calls Tryd.prog 36 #[.string t, .int .i64 (a : Int)] w fun e w' => e = .returned (.tuple #[.int .i64 ((ans4 (fourAt t.data.toList 4 a 0)).1 : Int), .int .i64 ((ans4 (fourAt t.data.toList 4 a 0)).2 : Int)]) ∧ w' = w := by
  obtain ⟨R, hR⟩ : ∃ R, fourAt t.data.toList 4 a 0 = R := ⟨_, rfl⟩
  rw [hR]
  have hR0 := hR.symm
  clear hR
  have KD := Lib.hid (fun c hc w => rdigit_any c hc w)
  go_enter Tryd.func36, Tryd.ntmps36
  go_wp2_with fail
  go_loop [6, 7] (fun n i => ∃ k N : Nat, k ≤ 4 ∧ i = .int .i64 (k : Int) ∧ n = .int .i64 (N : Int) ∧ N < 16 ^ k ∧ R = fourAt t.data.toList (4 - k) (a + k) N) (fun _ i => 4 - (RowKit.intOf i).toNat)
  case atStart => exact ⟨0, 0, by omega, rfl, rfl, by decide, hR0⟩
  case round =>
    obtain ⟨k, N, hk, rfl, rfl, hN, hRk⟩ := hrel
    by_cases h4 : k < 4
    · have p1 : (k : Int) < 4 := by omega
      obtain ⟨m, hm⟩ : ∃ m, 4 - k = m + 1 := ⟨3 - k, by omega⟩
      have hN2 : N < 65536 := Nat.lt_of_lt_of_le hN (Nat.le_trans (Nat.pow_le_pow_right (by decide) hk) (by decide))
      have q0 : IntKind.i64.wrap ((a : Int) + (k : Int)) = ((a + k : Nat) : Int) := by rw [IntWalk.i64_in _ (by omega)]; omega
      have q9 : IntKind.i64.wrap ((k : Int) + 1) = ((k + 1 : Nat) : Int) := by rw [IntWalk.i64_in _ (by omega)]; omega
      rw [hm, fourAt, len_of] at hRk
      obtain ⟨x, hx⟩ : ∃ x, a + k = x := ⟨_, rfl⟩
      rw [hx] at q0 hRk
      have HN := Lib.hid hN
      clear hN hR0
      by_cases hs : x < t.size
      · rw [if_neg (by omega)] at hRk
        have p2 : ¬ (t.size : Int) ≤ (x : Int) := by omega
        have p3 : (x : Int) < (t.size : Int) := by omega
        have hg := at_get hs
        obtain ⟨C, hC⟩ : ∃ C, at_ t.data.toList x = C := ⟨_, rfl⟩
        have hC2 : C < 256 := by rw [← hC]; exact at_lt _ _
        rw [hC] at hg hRk
        have KD2 := Lib.hid (KD.out C hC2)
        clear hC
        cases q4 : hexv C with
        | none =>
          have q5 : hexI C = -1 := by unfold hexI; rw [q4]
          rw [q5] at KD2
          rw [q4] at hRk
          have HR := Lib.hid hRk
          clear hRk q4 q5
          go_wp2_with fail
          refine (KD2.out _).mono ?_
          rintro e w1 ⟨rfl, rfl⟩
          go_wp2_with fail
          go_ret2
          rw [HR.out]
          exact ⟨rfl, rfl⟩
        | some d =>
          have hd16 := hexv_lt q4
          have q5 : hexI C = (d : Int) := by unfold hexI; rw [q4]
          rw [q5] at KD2
          rw [q4] at hRk
          have HR := Lib.hid hRk
          have q6 : IntKind.i64.wrap (16 * (N : Int)) = ((16 * N : Nat) : Int) := by rw [IntWalk.i64_in _ (by omega)]; omega
          have q7 : IntKind.i64.wrap (((16 * N : Nat) : Int) + (d : Int)) = ((16 * N + d : Nat) : Int) := by rw [IntWalk.i64_in _ (by omega)]; omega
          obtain ⟨z, hz⟩ : ∃ z, 16 * N = z := ⟨_, rfl⟩
          rw [hz] at q6 q7
          obtain ⟨y, hy⟩ : ∃ y, z + d = y := ⟨_, rfl⟩
          rw [hy] at q7
          have HZ := Lib.hid (And.intro hz hy)
          clear hRk q4 q5 hz hy
          go_wp2_with fail
          refine (KD2.out _).mono ?_
          rintro e w1 ⟨rfl, rfl⟩
          go_wp2_with fail
          go_round
          case rel =>
            obtain ⟨hz, hy⟩ := HZ.out
            exact ⟨k + 1, y, by omega, rfl, rfl, by have := HN.out; rw [Nat.pow_succ]; omega, by rw [HR.out, show 4 - (k + 1) = m by omega, show a + (k + 1) = x + 1 by omega, ← hy, ← hz]⟩
          case measure => simp [RowKit.intOf]; omega
      · rw [if_pos (by omega)] at hRk
        have p2 : (t.size : Int) ≤ (x : Int) := by omega
        have HR := Lib.hid hRk
        clear hRk
        go_wp2_with fail
        go_ret2
        rw [HR.out]
        exact ⟨rfl, rfl⟩
    · obtain rfl : k = 4 := by omega
      have HR := Lib.hid hRk
      clear hRk hR0
      go_wp2_with fail
      go_ret2
      rw [HR.out]
      exact ⟨rfl, rfl⟩
end Go.Proofs.YtndifilhfiooaaaDoor
namespace Go.Proofs.YtndifilhfiooaaaDoor
set_option maxRecDepth 20000
set_option linter.unusedSimpArgs false
set_option linter.unusedVariables false
open Go.RowKit Go.Lib Go.Shelf
attribute [local go_sem] Oper.semAt_some
/-- The second number of a pair. -/
def pairV (L : List UInt8) (a : Nat) : Except Nat Nat :=
  if L.length ≤ a then .error 5 else if at_ L a ≠ 92 then .error 11 else
  if L.length ≤ a + 1 then .error 5 else if at_ L (a + 1) ≠ 117 then .error 11 else
  match fourAt L 4 (a + 2) 0 with
  | .error m => .error m
  | .ok m => if m < 56320 ∨ 57343 < m then .error 11 else .ok m
theorem four_no0 (L : List UInt8) : ∀ (k a n : Nat), fourAt L k a n ≠ .error 0
  | 0, _, _ => by simp [fourAt]
  | k + 1, a, n => by
    unfold fourAt
    split
    · simp
    · split
      · simp
      · exact four_no0 L k _ _
theorem four_lt (L : List UInt8) : ∀ (k a n m : Nat), fourAt L k a n = .ok m → m < (n + 1) * 16 ^ k
  | 0, _, n, m, h => by cases h; simp
  | k + 1, a, n, m, h => by
    unfold fourAt at h
    split at h
    · cases h
    · split at h
      · cases h
      · rename_i d hd
        have h1 := four_lt L k _ _ _ h
        have h2 := hexv_lt hd
        have h3 : (16 * n + d + 1) * 16 ^ k ≤ (n + 1) * 16 * 16 ^ k := Nat.mul_le_mul_right _ (by omega)
        rw [Nat.pow_succ, Nat.mul_comm (16 ^ k) 16, ← Nat.mul_assoc]
        omega
set_option maxRecDepth 100000 in
set_option maxHeartbeats 4000000 in
theorem rpair_any (t : ByteArray) (a : Nat) (w : World) (ht : t.size ≤ 100000) (ha : a ≤ 150000) :
    Calls Tryd.prog 37 #[.string t, .int .i64 (a : Int)] w fun e w' => e = .returned (.tuple #[.int .i64 ((ans4 (pairV t.data.toList a)).1 : Int), .int .i64 ((ans4 (pairV t.data.toList a)).2 : Int)]) ∧ w' = w := by
  obtain ⟨R, hR⟩ : ∃ R, pairV t.data.toList a = R := ⟨_, rfl⟩
  rw [hR]
  have e1 : R = if t.size ≤ a then .error 5 else if at_ t.data.toList a ≠ 92 then .error 11 else
      if t.size ≤ a + 1 then .error 5 else if at_ t.data.toList (a + 1) ≠ 117 then .error 11 else
      match fourAt t.data.toList 4 (a + 2) 0 with
      | .error m => .error m
      | .ok m => if m < 56320 ∨ 57343 < m then .error 11 else .ok m := by rw [← hR, pairV, len_of]
  clear hR
  have q1 : IntKind.i64.wrap ((a : Int) + 1) = ((a + 1 : Nat) : Int) := by rw [IntWalk.i64_in _ (by omega)]; omega
  have q2 : IntKind.i64.wrap ((a : Int) + 2) = ((a + 2 : Nat) : Int) := by rw [IntWalk.i64_in _ (by omega)]; omega
  obtain ⟨a1, ha1⟩ : ∃ x, a + 1 = x := ⟨_, rfl⟩
  obtain ⟨a2, ha2⟩ : ∃ x, a + 2 = x := ⟨_, rfl⟩
  rw [ha1] at q1 e1
  rw [ha2] at q2 e1
  have K4 := Lib.hid (fun w => rfour_any t a2 w ht (by omega))
  by_cases c1 : a < t.size
  · have p1 : ¬ (t.size : Int) ≤ (a : Int) := by omega
    have r1 : (a : Int) < (t.size : Int) := by omega
    have g1 := at_get c1
    rw [if_neg (by omega)] at e1
    obtain ⟨C, hC⟩ : ∃ C, at_ t.data.toList a = C := ⟨_, rfl⟩
    rw [hC] at g1 e1
    clear hC
    by_cases c2 : C = 92
    · have e92 : ((C : Int) != 92) = false := by simp [c2]
      rw [if_neg (by simp [c2])] at e1
      clear c2
      by_cases c3 : a1 < t.size
      · have p3 : ¬ (t.size : Int) ≤ (a1 : Int) := by omega
        have r3 : (a1 : Int) < (t.size : Int) := by omega
        have g3 := at_get c3
        rw [if_neg (by omega)] at e1
        obtain ⟨D, hD⟩ : ∃ D, at_ t.data.toList a1 = D := ⟨_, rfl⟩
        rw [hD] at g3 e1
        clear hD
        by_cases c4 : D = 117
        · have e117 : ((D : Int) != 117) = false := by simp [c4]
          rw [if_neg (by simp [c4])] at e1
          clear c4
          obtain ⟨R2, hR2⟩ : ∃ R2, fourAt t.data.toList 4 a2 0 = R2 := ⟨_, rfl⟩
          rw [hR2] at K4 e1
          cases R2 with
          | error m =>
            have hm : m ≠ 0 := fun h => four_no0 _ _ _ _ (by rw [hR2, h])
            have em : ((m : Int) == 0) = false := by simp; omega
            have HR := Lib.hid e1
            clear e1 hR2
            simp only [ans4] at K4
            go_enter Tryd.func37, Tryd.ntmps37
            go_wp2_with fail
            refine (K4.out _).mono ?_
            rintro e w1 ⟨rfl, rfl⟩
            go_wp2_with fail
            go_ret2
            rw [HR.out]
            exact ⟨rfl, rfl⟩
          | ok m =>
            have hm := four_lt _ _ _ _ _ hR2
            simp only at e1
            have hm2 : m < 65536 := by omega
            clear hm hR2
            simp only [ans4] at K4
            by_cases c5 : m < 56320
            · have p5 : (m : Int) < 56320 := by omega
              rw [if_pos (.inl c5)] at e1
              have HR := Lib.hid e1
              clear e1 c5
              go_enter Tryd.func37, Tryd.ntmps37
              go_wp2_with fail
              refine (K4.out _).mono ?_
              rintro e w1 ⟨rfl, rfl⟩
              go_wp2_with fail
              go_ret2
              rw [HR.out]
              exact ⟨rfl, rfl⟩
            · have p5 : ¬ (m : Int) < 56320 := by omega
              by_cases c6 : 57343 < m
              · have p6 : (57343 : Int) < (m : Int) := by omega
                rw [if_pos (.inr c6)] at e1
                have HR := Lib.hid e1
                clear e1 c5 c6
                go_enter Tryd.func37, Tryd.ntmps37
                go_wp2_with fail
                refine (K4.out _).mono ?_
                rintro e w1 ⟨rfl, rfl⟩
                go_wp2_with fail
                go_ret2
                rw [HR.out]
                exact ⟨rfl, rfl⟩
              · have p6 : ¬ (57343 : Int) < (m : Int) := by omega
                rw [if_neg (by omega)] at e1
                have HR := Lib.hid e1
                clear e1 c5 c6
                go_enter Tryd.func37, Tryd.ntmps37
                go_wp2_with fail
                refine (K4.out _).mono ?_
                rintro e w1 ⟨rfl, rfl⟩
                go_wp2_with fail
                go_ret2
                rw [HR.out]
                exact ⟨rfl, rfl⟩
        · have e117 : ((D : Int) != 117) = true := by simp; omega
          rw [if_pos c4] at e1
          have HR := Lib.hid e1
          clear e1 c4
          go_enter Tryd.func37, Tryd.ntmps37
          go_wp2_with fail
          go_ret2
          rw [HR.out]
          exact ⟨rfl, rfl⟩
      · have p3 : (t.size : Int) ≤ (a1 : Int) := by omega
        rw [if_pos (by omega)] at e1
        have HR := Lib.hid e1
        clear e1
        go_enter Tryd.func37, Tryd.ntmps37
        go_wp2_with fail
        go_ret2
        rw [HR.out]
        exact ⟨rfl, rfl⟩
    · have e92 : ((C : Int) != 92) = true := by simp; omega
      rw [if_pos c2] at e1
      have HR := Lib.hid e1
      clear e1 c2
      go_enter Tryd.func37, Tryd.ntmps37
      go_wp2_with fail
      go_ret2
      rw [HR.out]
      exact ⟨rfl, rfl⟩
  · have p1 : (t.size : Int) ≤ (a : Int) := by omega
    rw [if_pos (by omega)] at e1
    have HR := Lib.hid e1
    clear e1
    go_enter Tryd.func37, Tryd.ntmps37
    go_wp2_with fail
    go_ret2
    rw [HR.out]
    exact ⟨rfl, rfl⟩
/-- The letter of a code point; 0: there is none. -/
def smallN (n : Nat) : Nat := (letV n).getD 0
set_option maxRecDepth 100000 in
set_option maxHeartbeats 4000000 in
theorem rsmall_any (n : Nat) (hn : n ≤ 1114111) (w : World) : Calls Tryd.prog 35 #[.int .i64 (n : Int)] w fun e w' => e = .returned (.int .u8 (smallN n : Int)) ∧ w' = w := by
  obtain ⟨R, hR⟩ : ∃ R, smallN n = R := ⟨_, rfl⟩
  rw [hR]
  unfold smallN letV at hR
  have mk : ∀ k : Nat, n ≠ k → ((n : Int) == (k : Int)) = false := fun k h => by simp; omega
  by_cases h1 : n = 34
  · subst h1
    obtain rfl : 34 = R := by simpa using hR
    go_enter Tryd.func35, Tryd.ntmps35
    go_wp2_with fail
    go_ret
    exact ⟨rfl, rfl⟩
  have e1 : ((n : Int) == 34) = false := mk 34 h1
  rw [if_neg h1] at hR
  by_cases h2 : n = 92
  · subst h2
    obtain rfl : 92 = R := by simpa using hR
    go_enter Tryd.func35, Tryd.ntmps35
    go_wp2_with fail
    go_ret
    exact ⟨rfl, rfl⟩
  have e2 : ((n : Int) == 92) = false := mk 92 h2
  rw [if_neg h2] at hR
  by_cases h3 : n = 8
  · subst h3
    obtain rfl : 98 = R := by simpa using hR
    go_enter Tryd.func35, Tryd.ntmps35
    go_wp2_with fail
    go_ret
    exact ⟨rfl, rfl⟩
  have e3 : ((n : Int) == 8) = false := mk 8 h3
  rw [if_neg h3] at hR
  by_cases h4 : n = 9
  · subst h4
    obtain rfl : 116 = R := by simpa using hR
    go_enter Tryd.func35, Tryd.ntmps35
    go_wp2_with fail
    go_ret
    exact ⟨rfl, rfl⟩
  have e4 : ((n : Int) == 9) = false := mk 9 h4
  rw [if_neg h4] at hR
  by_cases h5 : n = 10
  · subst h5
    obtain rfl : 110 = R := by simpa using hR
    go_enter Tryd.func35, Tryd.ntmps35
    go_wp2_with fail
    go_ret
    exact ⟨rfl, rfl⟩
  have e5 : ((n : Int) == 10) = false := mk 10 h5
  rw [if_neg h5] at hR
  by_cases h6 : n = 12
  · subst h6
    obtain rfl : 102 = R := by simpa using hR
    go_enter Tryd.func35, Tryd.ntmps35
    go_wp2_with fail
    go_ret
    exact ⟨rfl, rfl⟩
  have e6 : ((n : Int) == 12) = false := mk 12 h6
  rw [if_neg h6] at hR
  by_cases h7 : n = 13
  · subst h7
    obtain rfl : 114 = R := by simpa using hR
    go_enter Tryd.func35, Tryd.ntmps35
    go_wp2_with fail
    go_ret
    exact ⟨rfl, rfl⟩
  have e7 : ((n : Int) == 13) = false := mk 13 h7
  rw [if_neg h7] at hR
  obtain rfl : 0 = R := by simpa using hR
  clear h1 h2 h3 h4 h5 h6 h7 mk hR
  go_enter Tryd.func35, Tryd.ntmps35
  go_wp2_with fail
  go_ret
  exact ⟨rfl, rfl⟩
end Go.Proofs.YtndifilhfiooaaaDoor
namespace Go.Proofs.YtndifilhfiooaaaDoor
set_option maxRecDepth 20000
set_option linter.unusedSimpArgs false
set_option linter.unusedVariables false
open Go.RowKit Go.Lib Go.Shelf
attribute [local go_sem] Oper.semAt_some
theorem let_mean : ∀ (k : Fin 128) (c : Fin 256), c.val ≠ 47 → (letV k.val = some c.val ↔ meanV c.val = some k.val) := by decide +kernel
theorem mean_128 : ∀ {c k : Nat}, meanV c = some k → k < 128 := by
  intro c k h
  unfold meanV at h
  repeat' split at h
  all_goals first | (cases h; omega) | cases h
theorem mean_117 : meanV 117 = none := by decide
theorem small_let {k S : Nat} (h : smallN k = S) : (S ≠ 0 → letV k = some S) ∧ (S = 0 → letV k = none) := by
  unfold smallN at h
  have : ∀ v, letV k = some v → v ≠ 0 := by
    intro v hv
    unfold letV at hv
    repeat' split at hv
    all_goals first | (cases hv; decide) | cases hv
  cases hl : letV k with
  | none => rw [hl] at h; exact ⟨fun hne => absurd h.symm hne, fun _ => rfl⟩
  | some v =>
    rw [hl] at h
    obtain rfl : v = S := h
    exact ⟨fun _ => rfl, fun h0 => absurd h0 (this v hl)⟩
theorem num_pair {L : List UInt8} {a n : Nat} (h : fourAt L 4 a 0 = .ok n) (h1 : ¬ n < 55296) (h2 : ¬ 57343 < n) (h3 : ¬ 56320 ≤ n) :
    numV L a = match pairV L (a + 4) with | .error m => .error m | .ok m => .ok (65536 + 1024 * (n - 55296) + (m - 56320), a + 10) := by
  rw [numV, h]
  simp only
  rw [if_neg (by omega), if_neg h3, pairV]
  by_cases c1 : L.length ≤ a + 4
  · rw [if_pos c1, if_pos c1]
  rw [if_neg c1, if_neg c1]
  by_cases c2 : at_ L (a + 4) ≠ 92
  · rw [if_pos c2, if_pos c2]
  rw [if_neg c2, if_neg c2]
  by_cases c3 : L.length ≤ a + 5
  · rw [if_pos c3, if_pos c3]
  rw [if_neg c3, if_neg c3]
  by_cases c4 : at_ L (a + 5) ≠ 117
  · rw [if_pos c4, if_pos c4]
  rw [if_neg c4, if_neg c4, show a + 4 + 2 = a + 6 from rfl]
  cases fourAt L 4 (a + 6) 0 with
  | error m => rfl
  | ok m =>
    simp only
    split <;> rfl
theorem four_le (L : List UInt8) : ∀ (k a n m : Nat), fourAt L k a n = .ok m → a ≤ L.length → a + k ≤ L.length
  | 0, _, _, _, _, h => h
  | k + 1, a, n, m, h, _ => by
    unfold fourAt at h
    split at h
    · cases h
    · split at h
      · cases h
      · have := four_le L k _ _ _ h (by omega)
        omega
theorem num_le {L : List UInt8} {a n a' : Nat} (h : numV L a = .ok (n, a')) (ha : a ≤ L.length) : a' ≤ L.length := by
  unfold numV at h
  split at h
  · cases h
  · rename_i x hx
    have h0 := four_le L 4 a 0 x hx ha
    split at h
    · cases h; omega
    · split at h
      · cases h
      · split at h
        · cases h
        · split at h
          · cases h
          · split at h
            · cases h
            · split at h
              · cases h
              · split at h
                · cases h
                · rename_i y hy
                  split at h
                  · cases h
                  · have h1 := four_le L 4 (a + 6) 0 y hy (by omega)
                    have := (Prod.mk.inj (Except.ok.inj h)).2
                    omega
theorem esc_le {L : List UInt8} {a n a' : Nat} (h : escV L a = .ok (n, a')) : a' ≤ L.length := by
  unfold escV at h
  split at h
  · cases h
  · split at h
    · exact num_le h (by omega)
    · split at h
      · cases h
      · cases h; omega
def ans3 (a : Nat) : Except Nat (Nat × Nat) → Nat × Nat × Nat
  | .ok (n, a') => (n, a' - a, 0)
  | .error m => (0, 0, m)
def ret3 (x : Nat × Nat × Nat) : Ending := .returned (.tuple #[.int .i64 (x.1 : Int), .int .i64 (x.2.1 : Int), .int .i64 (x.2.2 : Int)])
set_option maxRecDepth 100000 in
set_option maxHeartbeats 8000000 in
theorem rescape_any (t : ByteArray) (a : Nat) (w : World) (ht : t.size ≤ 100000) (ha : a ≤ 100001) :
    Calls Tryd.prog 24 #[.string t, .int .i64 (a : Int)] w fun e w' => e = ret3 (ans3 a (escV t.data.toList a)) ∧ w' = w := by
  obtain ⟨R, hR⟩ : ∃ R, escV t.data.toList a = R := ⟨_, rfl⟩
  rw [hR]
  have e1 : R = if t.size ≤ a then .error 5 else if at_ t.data.toList a = 117 then numV t.data.toList (a + 1) else match meanV (at_ t.data.toList a) with
    | none => .error 11
    | some n => .ok (n, a + 1) := by (rw [← hR, escV, len_of]; try rfl)
  clear hR
  by_cases c1 : a < t.size
  · have p1 : ¬ (t.size : Int) ≤ (a : Int) := by omega
    have r1 : (a : Int) < (t.size : Int) := by omega
    have g1 := at_get c1
    rw [if_neg (by omega)] at e1
    obtain ⟨C, hC⟩ : ∃ C, at_ t.data.toList a = C := ⟨_, rfl⟩
    have hC2 : C < 256 := by rw [← hC]; exact at_lt _ _
    rw [hC] at g1 e1
    clear hC
    by_cases c47 : C = 47
    · subst c47
      rw [if_neg (by decide)] at e1
      have HR := Lib.hid e1
      clear e1
      go_enter Tryd.func24, Tryd.ntmps24
      go_wp2_with fail
      go_ret3
      rw [HR.out]
      have hs : a + 1 - a = 1 := by omega
      refine ⟨?_, rfl⟩
      show _ = ret3 (47, a + 1 - a, 0)
      rw [hs]
      rfl
    · have e47 : ((C : Int) == 47) = false := by simp; omega
      have KS := Lib.hid (fun k hk w => rsmall_any k hk w)
      have E1 := Lib.hid e1
      clear e1
      go_enter Tryd.func24, Tryd.ntmps24
      go_wp2_with fail
      go_loop [8] (fun i => ∃ k : Nat, k ≤ 128 ∧ i = .int .i64 (k : Int) ∧ ∀ j, j < k → letV j ≠ some C) (fun i => 128 - (RowKit.intOf i).toNat)
      case atStart => exact ⟨0, by omega, rfl, fun j hj => by omega⟩
      case round =>
        obtain ⟨k, hk, rfl, hno⟩ := hrel
        by_cases hk1 : k < 128
        · have pk : (k : Int) < 128 := by omega
          have q9 : IntKind.i64.wrap ((k : Int) + 1) = ((k + 1 : Nat) : Int) := by rw [IntWalk.i64_in _ (by omega)]; omega
          have KS2 := KS.out k (by omega)
          obtain ⟨S, hS⟩ : ∃ S, smallN k = S := ⟨_, rfl⟩
          rw [hS] at KS2
          obtain ⟨hS1, hS0⟩ := small_let hS
          have KS3 := Lib.hid KS2
          have HN := Lib.hid hno
          clear KS2 hS hno
          by_cases s0 : S = 0
          · have es : ((S : Int) != 0) = false := by simp [s0]
            have hkn : letV k ≠ some C := by rw [hS0 s0]; simp
            have HK := Lib.hid hkn
            clear hS1 hS0 s0 hkn
            go_wp2_with fail
            refine (KS3.out _).mono ?_
            rintro e w1 ⟨rfl, rfl⟩
            go_wp2_with fail
            go_round
            case rel => exact ⟨k + 1, by omega, rfl, fun j hj => by
              rcases Nat.lt_or_ge j k with h | h
              · exact HN.out j h
              · obtain rfl : j = k := by omega
                exact HK.out⟩
            case measure => simp [RowKit.intOf]; omega
          · have es : ((S : Int) != 0) = true := by simp; omega
            have hl := hS1 s0
            by_cases sc : S = C
            · subst sc
              have es2 : ((S : Int) == (S : Int)) = true := by simp
              have hm : meanV S = some k := (let_mean ⟨k, hk1⟩ ⟨S, hC2⟩ c47).1 hl
              have h117 : S ≠ 117 := fun h => by rw [h, mean_117] at hm; cases hm
              have hRv := E1.out
              rw [if_neg h117, hm] at hRv
              have HR := Lib.hid hRv
              clear hRv E1 hS1 hS0 s0 hl hm h117 HN
              go_wp2_with fail
              refine (KS3.out _).mono ?_
              rintro e w1 ⟨rfl, rfl⟩
              go_wp2_with fail
              refine (KS3.out _).mono ?_
              rintro e w2 ⟨rfl, rfl⟩
              go_wp2_with fail
              go_ret3
              rw [HR.out]
              have hs : a + 1 - a = 1 := by omega
              refine ⟨?_, rfl⟩
              show _ = ret3 (k, a + 1 - a, 0)
              rw [hs]
              rfl
            · have es2 : ((S : Int) == (C : Int)) = false := by simp; omega
              have hkn : letV k ≠ some C := by rw [hl]; intro h; exact sc (Option.some.inj h)
              have HK := Lib.hid hkn
              clear hS1 hS0 s0 hkn hl sc
              go_wp2_with fail
              refine (KS3.out _).mono ?_
              rintro e w1 ⟨rfl, rfl⟩
              go_wp2_with fail
              refine (KS3.out _).mono ?_
              rintro e w2 ⟨rfl, rfl⟩
              go_wp2_with fail
              go_round
              case rel => exact ⟨k + 1, by omega, rfl, fun j hj => by
                rcases Nat.lt_or_ge j k with h | h
                · exact HN.out j h
                · obtain rfl : j = k := by omega
                  exact HK.out⟩
              case measure => simp [RowKit.intOf]; omega
        · obtain rfl : k = 128 := by omega
          have hmn : meanV C = none := by
            cases hm : meanV C with
            | none => rfl
            | some j =>
              have hj := mean_128 hm
              exact absurd ((let_mean ⟨j, hj⟩ ⟨C, hC2⟩ c47).2 hm) (hno j hj)
          have hRv := E1.out
          rw [hmn] at hRv
          clear hno E1 hmn KS
          by_cases c117 : C = 117
          · have e117 : ((C : Int) != 117) = false := by simp [c117]
            rw [if_pos c117] at hRv
            have q1 : IntKind.i64.wrap ((a : Int) + 1) = ((a + 1 : Nat) : Int) := by rw [IntWalk.i64_in _ (by omega)]; omega
            have q5 : IntKind.i64.wrap ((a : Int) + 5) = ((a + 5 : Nat) : Int) := by rw [IntWalk.i64_in _ (by omega)]; omega
            have K4 := Lib.hid (fun w => rfour_any t (a + 1) w ht (by omega))
            have KP := Lib.hid (fun w => rpair_any t (a + 5) w ht (by omega))
            obtain ⟨b, hb⟩ : ∃ b, a + 1 = b := ⟨_, rfl⟩
            obtain ⟨d, hd⟩ : ∃ d, a + 5 = d := ⟨_, rfl⟩
            rw [hb] at q1 K4 hRv
            rw [hd] at q5 KP
            have hbd : b + 4 = d := by omega
            obtain ⟨R2, hR2⟩ : ∃ R2, fourAt t.data.toList 4 b 0 = R2 := ⟨_, rfl⟩
            rw [hR2] at K4
            clear c117
            cases R2 with
            | error m =>
              have hm : m ≠ 0 := fun h => four_no0 _ _ _ _ (by rw [hR2, h])
              have em : ((m : Int) != 0) = true := by simp; omega
              have hRn : numV t.data.toList b = .error m := by unfold numV; rw [hR2]
              have HR := Lib.hid (hRv.trans hRn)
              clear hRv hRn hR2 hb hd hbd
              simp only [ans4] at K4
              go_wp2_with fail
              refine (K4.out _).mono ?_
              rintro e w1 ⟨rfl, rfl⟩
              go_wp2_with fail
              go_ret3
              rw [HR.out]
              exact ⟨rfl, rfl⟩
            | ok n =>
              have hn := four_lt _ _ _ _ _ hR2
              have hn2 : n < 65536 := by omega
              simp only [ans4] at K4
              clear hn
              by_cases c5 : n < 55296
              · have p5 : (n : Int) < 55296 := by omega
                have hRn : numV t.data.toList b = .ok (n, b + 4) := by unfold numV; rw [hR2]; simp only; rw [if_pos (.inl c5)]
                have HR := Lib.hid (hRv.trans hRn)
                have HS := Lib.hid (show b + 4 - a = 5 by omega)
                clear hRv hRn hR2 hb hd hbd c5
                go_wp2_with fail
                refine (K4.out _).mono ?_
                rintro e w1 ⟨rfl, rfl⟩
                go_wp2_with fail
                go_ret3
                rw [HR.out]
                refine ⟨?_, rfl⟩
                show _ = ret3 (n, b + 4 - a, 0)
                rw [HS.out]
                rfl
              · have p5 : ¬ (n : Int) < 55296 := by omega
                by_cases c6 : 57343 < n
                · have p6 : (57343 : Int) < (n : Int) := by omega
                  have hRn : numV t.data.toList b = .ok (n, b + 4) := by unfold numV; rw [hR2]; simp only; rw [if_pos (.inr c6)]
                  have HR := Lib.hid (hRv.trans hRn)
                  have HS := Lib.hid (show b + 4 - a = 5 by omega)
                  clear hRv hRn hR2 hb hd hbd c5 c6
                  go_wp2_with fail
                  refine (K4.out _).mono ?_
                  rintro e w1 ⟨rfl, rfl⟩
                  go_wp2_with fail
                  go_ret3
                  rw [HR.out]
                  refine ⟨?_, rfl⟩
                  show _ = ret3 (n, b + 4 - a, 0)
                  rw [HS.out]
                  rfl
                · have p6 : ¬ (57343 : Int) < (n : Int) := by omega
                  by_cases c7 : 56320 ≤ n
                  · have p7 : (56319 : Int) < (n : Int) := by omega
                    have hRn : numV t.data.toList b = .error 11 := by unfold numV; rw [hR2]; simp only; rw [if_neg (by omega), if_pos c7]
                    have HR := Lib.hid (hRv.trans hRn)
                    clear hRv hRn hR2 hb hd hbd c5 c6 c7
                    go_wp2_with fail
                    refine (K4.out _).mono ?_
                    rintro e w1 ⟨rfl, rfl⟩
                    go_wp2_with fail
                    go_ret3
                    rw [HR.out]
                    exact ⟨rfl, rfl⟩
                  · have p7 : ¬ (56319 : Int) < (n : Int) := by omega
                    have hRn := num_pair hR2 c5 c6 c7
                    rw [hbd] at hRn
                    obtain ⟨R3, hR3⟩ : ∃ R3, pairV t.data.toList d = R3 := ⟨_, rfl⟩
                    rw [hR3] at hRn KP
                    cases R3 with
                    | error m =>
                      have hm : m ≠ 0 := by
                        rintro rfl
                        unfold pairV at hR3
                        repeat' split at hR3
                        all_goals first | (cases hR3; done) | (rename_i h; cases hR3; exact four_no0 _ _ _ _ h)
                      have em : ((m : Int) != 0) = true := by simp; omega
                      have HR := Lib.hid (hRv.trans hRn)
                      clear hRv hRn hR2 hR3 hb hd hbd c5 c6 c7
                      simp only [ans4] at KP
                      go_wp2_with fail
                      refine (K4.out _).mono ?_
                      rintro e w1 ⟨rfl, rfl⟩
                      go_wp2_with fail
                      refine (KP.out _).mono ?_
                      rintro e w2 ⟨rfl, rfl⟩
                      go_wp2_with fail
                      go_ret3
                      rw [HR.out]
                      exact ⟨rfl, rfl⟩
                    | ok m =>
                      have hm3 : 56320 ≤ m ∧ m ≤ 57343 := by
                        unfold pairV at hR3
                        repeat' split at hR3
                        all_goals first | (cases hR3; done) | (cases hR3; omega)
                      simp only at hRn
                      have HR := Lib.hid (hRv.trans hRn)
                      have HS := Lib.hid (show b + 10 - a = 11 by omega)
                      have x1 : IntKind.i64.wrap ((n : Int) - 55296) = ((n - 55296 : Nat) : Int) := by rw [IntWalk.i64_in _ (by omega)]; omega
                      have x2 : IntKind.i64.wrap (1024 * ((n - 55296 : Nat) : Int)) = ((1024 * (n - 55296) : Nat) : Int) := by rw [IntWalk.i64_in _ (by omega)]; omega
                      have x3 : IntKind.i64.wrap (65536 + ((1024 * (n - 55296) : Nat) : Int)) = ((65536 + 1024 * (n - 55296) : Nat) : Int) := by rw [IntWalk.i64_in _ (by omega)]; omega
                      have x4 : IntKind.i64.wrap (((65536 + 1024 * (n - 55296) : Nat) : Int) + (m : Int)) = ((65536 + 1024 * (n - 55296) + m : Nat) : Int) := by rw [IntWalk.i64_in _ (by omega)]; omega
                      have x5 : IntKind.i64.wrap (((65536 + 1024 * (n - 55296) + m : Nat) : Int) - 56320) = ((65536 + 1024 * (n - 55296) + (m - 56320) : Nat) : Int) := by rw [IntWalk.i64_in _ (by omega)]; omega
                      obtain ⟨z1, hz1⟩ : ∃ z, n - 55296 = z := ⟨_, rfl⟩
                      rw [hz1] at x1 x2 x3 x4 x5 HR
                      obtain ⟨z2, hz2⟩ : ∃ z, 1024 * z1 = z := ⟨_, rfl⟩
                      rw [hz2] at x2 x3 x4 x5 HR
                      obtain ⟨z3, hz3⟩ : ∃ z, 65536 + z2 = z := ⟨_, rfl⟩
                      rw [hz3] at x3 x4 x5 HR
                      obtain ⟨z4, hz4⟩ : ∃ z, z3 + m = z := ⟨_, rfl⟩
                      rw [hz4] at x4 x5
                      obtain ⟨z5, hz5⟩ : ∃ z, z3 + (m - 56320) = z := ⟨_, rfl⟩
                      rw [hz5] at x5 HR
                      clear hRv hRn hR2 hR3 hb hd hbd c5 c6 c7 hz1 hz2 hz3 hz4 hz5 hm3
                      simp only [ans4] at KP
                      go_wp2_with fail
                      refine (K4.out _).mono ?_
                      rintro e w1 ⟨rfl, rfl⟩
                      go_wp2_with fail
                      refine (KP.out _).mono ?_
                      rintro e w2 ⟨rfl, rfl⟩
                      go_wp2_with fail
                      go_ret3
                      rw [HR.out]
                      refine ⟨?_, rfl⟩
                      show _ = ret3 (z5, b + 10 - a, 0)
                      rw [HS.out]
                      rfl
          · have e117 : ((C : Int) != 117) = true := by simp; omega
            rw [if_neg c117] at hRv
            have HR := Lib.hid hRv
            clear hRv c117
            go_wp2_with fail
            go_ret3
            rw [HR.out]
            exact ⟨rfl, rfl⟩
  · have p1 : (t.size : Int) ≤ (a : Int) := by omega
    rw [if_pos (by omega)] at e1
    have HR := Lib.hid e1
    clear e1
    go_enter Tryd.func24, Tryd.ntmps24
    go_wp2_with fail
    go_ret3
    rw [HR.out]
    exact ⟨rfl, rfl⟩
end Go.Proofs.YtndifilhfiooaaaDoor
