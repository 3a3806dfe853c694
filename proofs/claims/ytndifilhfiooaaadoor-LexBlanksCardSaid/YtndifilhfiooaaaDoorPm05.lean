/- esc (layer 4): number and escape. esc (layer 4): what a quoted text stands for; plain. The reference of layer 4: digits, four, pair, small. The reference of layer 4: pair, small, escape. The reference of layer 4: escape. esc (layer 4): text. esc (layer 4): Unquote. esc (layer 4): Unquote, whole. The reference of layer 4: Unquote. -/
import Derived.Lib.AppendIntMem
import Derived.Recover
import Derived.RangeFuncBox
import Derived.Test.YtndifilhfiooaaaDoorPm04
namespace Go.Proofs.YtndifilhfiooaaaDoor
set_option maxRecDepth 20000
set_option linter.unusedSimpArgs false
set_option linter.unusedVariables false
open Go.RowKit Go.Lib Go.Shelf
attribute [local go_sem] Oper.semAt_some
/-- What \u stands for, read behind the u; and where it ends. -/
def numV (L : List UInt8) (a : Nat) : Except Nat (Nat × Nat) :=
  match fourAt L 4 a 0 with
  | .error m => .error m
  | .ok n => if n < 55296 ∨ 57343 < n then .ok (n, a + 4) else if 56320 ≤ n then .error 11 else
    if L.length ≤ a + 4 then .error 5 else if at_ L (a + 4) ≠ 92 then .error 11 else
    if L.length ≤ a + 5 then .error 5 else if at_ L (a + 5) ≠ 117 then .error 11 else
    match fourAt L 4 (a + 6) 0 with
    | .error m => .error m
    | .ok m => if m < 56320 ∨ 57343 < m then .error 11 else .ok (65536 + 1024 * (n - 55296) + (m - 56320), a + 10)
def escV (L : List UInt8) (a : Nat) : Except Nat (Nat × Nat) :=
  if L.length ≤ a then .error 5 else if at_ L a = 117 then numV L (a + 1) else match meanV (at_ L a) with
    | none => .error 11
    | some n => .ok (n, a + 1)
/-- How reading a code point ends. -/
def OutN (t : ByteArray) (b : Nat) (S : Value → World → Prop) (e : Ending) (w' : World) : Except Nat (Nat × Nat) → Prop
  | .ok (n, a') => e = .returned (.int .i32 (n : Int)) ∧ (∃ sh, w'.heap[b]? = some (rdB t a' sh) ∧ S sh w') ∧ isCp n ∧ a' ≤ t.size
  | .error m => e = .panicked (pch (m : Int))
set_option maxRecDepth 100000 in
set_option maxHeartbeats 4000000 in
theorem number_any (t : ByteArray) (a b : Nat) (sh : Value) (w : World) (hb : w.heap[b]? = some (rdB t a sh)) (ht : t.size ≤ 100000) (ha : a ≤ t.size) :
    Calls Tryd.prog 55 #[.pointer (some ⟨b, 0, none⟩)] w fun e w' => Oth b w w' ∧ OutN t b (fun s _ => s = sh) e w' (numV t.data.toList a) := by
  have K4 := Lib.hid (fun a w hb ha => four_any t a b sh w hb ht ha)
  have KT := Lib.hid (fun a w hb ha => take_yes t a b sh w hb ht ha)
  have KU := Lib.hid (fun a w hb ha => take_no t a b sh w hb ht ha)
  have KY := Lib.hid (fun w => must_yes 11 w)
  have KN := Lib.hid (fun w => must_no 11 w)
  have HB := Lib.hid hb
  clear hb
  obtain ⟨R, hR⟩ : ∃ R, numV t.data.toList a = R := ⟨_, rfl⟩
  rw [hR]
  have HR := Lib.hid hR
  clear hR
  go_enter Tryd.func55, Tryd.ntmps55
  go_wp2_with fail
  refine (K4.out a w HB.out ha).mono ?_
  rintro e w1 ⟨ho1, hr1⟩
  cases h1 : fourAt t.data.toList 4 a 0 with
  | error m =>
    rw [h1] at hr1
    obtain rfl : e = .panicked (pch (m : Int)) := hr1
    go_wp2_with fail
    exact ⟨rfl, ho1, by rw [← HR.out, numV, h1]; exact rfl⟩
  | ok n =>
    rw [h1] at hr1
    obtain ⟨rfl, hb1, hn, ha4⟩ := hr1
    have e1 : numV t.data.toList a = if n < 55296 ∨ 57343 < n then .ok (n, a + 4) else if 56320 ≤ n then .error 11 else
        if t.data.toList.length ≤ a + 4 then .error 5 else if at_ t.data.toList (a + 4) ≠ 92 then .error 11 else
        if t.data.toList.length ≤ a + 5 then .error 5 else if at_ t.data.toList (a + 5) ≠ 117 then .error 11 else
        match fourAt t.data.toList 4 (a + 6) 0 with
        | .error m => .error m
        | .ok m => if m < 56320 ∨ 57343 < m then .error 11 else .ok (65536 + 1024 * (n - 55296) + (m - 56320), a + 10) := by
      rw [numV, h1]
    rw [len_of] at e1
    have E1 := Lib.hid e1
    clear e1 h1
    by_cases c1 : n < 55296
    · have p1 : (n : Int) < 55296 := by omega
      go_wp2_with fail
      go_ret
      exact ⟨ho1, by rw [← HR.out, E1.out, if_pos (.inl c1)]; exact ⟨rfl, ⟨sh, hb1, rfl⟩, ⟨by omega, .inl c1⟩, ha4⟩⟩
    have p1 : ¬ (n : Int) < 55296 := by omega
    by_cases c2 : 57343 < n
    · have p2 : (57343 : Int) < (n : Int) := by omega
      go_wp2_with fail
      go_ret
      exact ⟨ho1, by rw [← HR.out, E1.out, if_pos (.inr c2)]; exact ⟨rfl, ⟨sh, hb1, rfl⟩, ⟨by omega, .inr c2⟩, ha4⟩⟩
    have p2 : ¬ (57343 : Int) < (n : Int) := by omega
    have E2 := E1.out
    rw [if_neg (by omega)] at E2
    by_cases c3 : 56320 ≤ n
    · have p3 : ¬ (n : Int) < 56320 := by omega
      rw [if_pos c3] at E2
      have E3 := Lib.hid E2
      clear E1 E2
      go_wp2_with fail
      rw [decide_eq_false (show ¬ (n : Int) < 56320 by omega)]
      refine (KN.out _).mono ?_
      rintro e w2 ⟨rfl, rfl⟩
      go_wp2_with fail
      obtain rfl := HR.out.symm.trans E3.out
      exact ⟨rfl, ho1, rfl⟩
    rw [if_neg c3] at E2
    by_cases c4 : a + 4 < t.size
    · rw [if_neg (by omega)] at E2
      have KT1 := KT.out (a + 4) w1 hb1 c4
      rw [at_get c4] at KT1
      obtain ⟨C, hC⟩ : ∃ C, at_ t.data.toList (a + 4) = C := ⟨_, rfl⟩
      rw [hC] at KT1 E2
      have KT2 := Lib.hid KT1
      by_cases c5 : C = 92
      · have e5 : ((C : Int) == 92) = true := by simp [c5]
        rw [if_neg (by simp [c5])] at E2
        clear hC c5 KT1
        by_cases c6 : a + 5 < t.size
        · rw [if_neg (by omega)] at E2
          obtain ⟨D, hD⟩ : ∃ D, at_ t.data.toList (a + 5) = D := ⟨_, rfl⟩
          have KT3 := Lib.hid (fun w h => by have := KT.out (a + 5) w h c6; rw [at_get c6, hD] at this; exact this)
          rw [hD] at E2
          by_cases c7 : D = 117
          · rw [if_neg (by simp [c7])] at E2
            have e7 : ((D : Int) == 117) = true := by simp [c7]
            obtain ⟨R2, hR2⟩ : ∃ R2, fourAt t.data.toList 4 (a + 6) 0 = R2 := ⟨_, rfl⟩
            have K42 := Lib.hid (fun w h => by have := K4.out (a + 6) w h (by omega); rw [hR2] at this; exact this)
            rw [hR2] at E2
            have E3 := Lib.hid E2
            clear E1 E2 hD c7 KT K4
            go_wp2_with fail
            rw [decide_eq_true (show (n : Int) < 56320 by omega)]
            refine (KY.out _).mono ?_
            rintro e w2 ⟨rfl, rfl⟩
            go_wp2_with fail
            refine KT2.out.mono ?_
            rintro e w3 ⟨rfl, hb3, ho3⟩
            go_wp2_with fail
            refine (KY.out _).mono ?_
            rintro e w4 ⟨rfl, rfl⟩
            go_wp2_with fail
            refine (KT3.out _ hb3).mono ?_
            rintro e w5 ⟨rfl, hb5, ho5⟩
            go_wp2_with fail
            refine (KY.out _).mono ?_
            rintro e w6 ⟨rfl, rfl⟩
            go_wp2_with fail
            refine (K42.out _ hb5).mono ?_
            rintro e w7 ⟨ho7, hr7⟩
            have hoo := ((ho1.trans ho3).trans ho5).trans ho7
            cases R2 with
            | error m =>
              obtain rfl : e = .panicked (pch (m : Int)) := hr7
              go_wp2_with fail
              obtain rfl := HR.out.symm.trans E3.out
              exact ⟨rfl, hoo, rfl⟩
            | ok m =>
              obtain ⟨rfl, hb7, hm, ha8⟩ := hr7
              have E4 := E3.out
              simp only at E4
              by_cases c8 : 56320 ≤ m
              · have p8 : (56320 : Int) ≤ (m : Int) := by omega
                by_cases c9 : m ≤ 57343
                · have p9 : (m : Int) ≤ 57343 := by omega
                  rw [if_neg (by omega)] at E4
                  have E5 := Lib.hid E4
                  clear E3 E4
                  have q1 : IntKind.i32.wrap ((n : Int) - 55296) = ((n - 55296 : Nat) : Int) := by rw [IntWalk.i32_in _ (by omega)]; omega
                  have q2 : IntKind.i32.wrap (1024 * ((n - 55296 : Nat) : Int)) = ((1024 * (n - 55296) : Nat) : Int) := by rw [IntWalk.i32_in _ (by omega)]; omega
                  have q3 : IntKind.i32.wrap (65536 + ((1024 * (n - 55296) : Nat) : Int)) = ((65536 + 1024 * (n - 55296) : Nat) : Int) := by rw [IntWalk.i32_in _ (by omega)]; omega
                  have q4 : IntKind.i32.wrap ((m : Int) - 56320) = ((m - 56320 : Nat) : Int) := by rw [IntWalk.i32_in _ (by omega)]; omega
                  have q5 : IntKind.i32.wrap (((65536 + 1024 * (n - 55296) : Nat) : Int) + ((m - 56320 : Nat) : Int)) = ((65536 + 1024 * (n - 55296) + (m - 56320) : Nat) : Int) := by rw [IntWalk.i32_in _ (by omega)]; omega
                  obtain ⟨z1, hz1⟩ : ∃ z, n - 55296 = z := ⟨_, rfl⟩
                  rw [hz1] at q1 q2 q3 q5 E5
                  obtain ⟨z2, hz2⟩ : ∃ z, 1024 * z1 = z := ⟨_, rfl⟩
                  rw [hz2] at q2 q3 q5 E5
                  obtain ⟨z3, hz3⟩ : ∃ z, 65536 + z2 = z := ⟨_, rfl⟩
                  rw [hz3] at q3 q5 E5
                  obtain ⟨z4, hz4⟩ : ∃ z, m - 56320 = z := ⟨_, rfl⟩
                  rw [hz4] at q4 q5 E5
                  obtain ⟨z5, hz5⟩ : ∃ z, z3 + z4 = z := ⟨_, rfl⟩
                  rw [hz5] at q5 E5
                  have Z := Lib.hid (And.intro hz1 (And.intro hz2 (And.intro hz3 (And.intro hz4 hz5))))
                  clear hz1 hz2 hz3 hz4 hz5
                  go_wp2_with fail
                  refine (KY.out _).mono ?_
                  rintro e w8 ⟨rfl, rfl⟩
                  go_wp2_with fail
                  go_ret
                  refine ⟨hoo, ?_⟩
                  rw [← HR.out, E5.out]
                  obtain ⟨y1, y2, y3, y4, y5⟩ := Z.out
                  exact ⟨rfl, ⟨sh, hb7, rfl⟩, ⟨by omega, by omega⟩, by omega⟩
                · have p9 : ¬ (m : Int) ≤ 57343 := by omega
                  rw [if_pos (.inr (by omega))] at E4
                  have E5 := Lib.hid E4
                  clear E3 E4
                  go_wp2_with fail
                  rw [decide_eq_false (show ¬ (m : Int) ≤ 57343 by omega)]
                  refine (KN.out _).mono ?_
                  rintro e w8 ⟨rfl, rfl⟩
                  go_wp2_with fail
                  obtain rfl := HR.out.symm.trans E5.out
                  exact ⟨rfl, hoo, rfl⟩
              · rw [if_pos (.inl (by omega))] at E4
                have E5 := Lib.hid E4
                clear E3 E4
                go_wp2_with fail
                refine (KN.out _).mono ?_
                rintro e w8 ⟨rfl, rfl⟩
                go_wp2_with fail
                obtain rfl := HR.out.symm.trans E5.out
                exact ⟨rfl, hoo, rfl⟩
          · rw [if_pos c7] at E2
            have e7 : ((D : Int) == 117) = false := by simp; omega
            have E3 := Lib.hid E2
            clear E1 E2 hD c7 KT K4
            go_wp2_with fail
            rw [decide_eq_true (show (n : Int) < 56320 by omega)]
            refine (KY.out _).mono ?_
            rintro e w2 ⟨rfl, rfl⟩
            go_wp2_with fail
            refine KT2.out.mono ?_
            rintro e w3 ⟨rfl, hb3, ho3⟩
            go_wp2_with fail
            refine (KY.out _).mono ?_
            rintro e w4 ⟨rfl, rfl⟩
            go_wp2_with fail
            refine (KT3.out _ hb3).mono ?_
            rintro e w5 ⟨rfl, hb5, ho5⟩
            go_wp2_with fail
            refine (KN.out _).mono ?_
            rintro e w6 ⟨rfl, rfl⟩
            go_wp2_with fail
            obtain rfl := HR.out.symm.trans E3.out
            exact ⟨rfl, (ho1.trans ho3).trans ho5, rfl⟩
        · rw [if_pos (by omega)] at E2
          have KU3 := Lib.hid (fun w h => KU.out (a + 5) w h (by omega))
          have E3 := Lib.hid E2
          clear E1 E2 KT K4
          go_wp2_with fail
          rw [decide_eq_true (show (n : Int) < 56320 by omega)]
          refine (KY.out _).mono ?_
          rintro e w2 ⟨rfl, rfl⟩
          go_wp2_with fail
          refine KT2.out.mono ?_
          rintro e w3 ⟨rfl, hb3, ho3⟩
          go_wp2_with fail
          refine (KY.out _).mono ?_
          rintro e w4 ⟨rfl, rfl⟩
          go_wp2_with fail
          refine (KU3.out _ hb3).mono ?_
          rintro e w5 ⟨rfl, ho5⟩
          go_wp2_with fail
          obtain rfl := HR.out.symm.trans E3.out
          exact ⟨rfl, (ho1.trans ho3).trans ho5, rfl⟩
      · have e5 : ((C : Int) == 92) = false := by simp; omega
        rw [if_pos c5] at E2
        have E3 := Lib.hid E2
        clear E1 E2 hC c5 KT1 KT K4
        go_wp2_with fail
        rw [decide_eq_true (show (n : Int) < 56320 by omega)]
        refine (KY.out _).mono ?_
        rintro e w2 ⟨rfl, rfl⟩
        go_wp2_with fail
        refine KT2.out.mono ?_
        rintro e w3 ⟨rfl, hb3, ho3⟩
        go_wp2_with fail
        refine (KN.out _).mono ?_
        rintro e w4 ⟨rfl, rfl⟩
        go_wp2_with fail
        obtain rfl := HR.out.symm.trans E3.out
        exact ⟨rfl, ho1.trans ho3, rfl⟩
    · rw [if_pos (by omega)] at E2
      have KU2 := Lib.hid (KU.out (a + 4) w1 hb1 (by omega))
      have E3 := Lib.hid E2
      clear E1 E2 KT K4
      go_wp2_with fail
      rw [decide_eq_true (show (n : Int) < 56320 by omega)]
      refine (KY.out _).mono ?_
      rintro e w2 ⟨rfl, rfl⟩
      go_wp2_with fail
      refine KU2.out.mono ?_
      rintro e w3 ⟨rfl, ho3⟩
      go_wp2_with fail
      obtain rfl := HR.out.symm.trans E3.out
      exact ⟨rfl, ho1.trans ho3, rfl⟩
theorem mean_cp {c n : Nat} (h : meanV c = some n) : isCp n := by
  unfold meanV at h
  repeat' split at h
  all_goals first | (cases h; exact ⟨by decide, by decide⟩) | cases h
/-- A reader's map is none yet, or the one of the meanings. -/
def ShOk (b : Nat) (sh : Value) (w : World) : Prop := sh = .map none ∨ ∃ m, sh = .map (some m) ∧ MeanAt m w ∧ m ≠ b ∧ m < w.heap.size
theorem ShOk.keep {b : Nat} {sh : Value} {w w' : World} (h : ShOk b sh w) (ho : Oth b w w') : ShOk b sh w' := by
  rcases h with h | ⟨m, h1, h2, h3, h4⟩
  · exact .inl h
  · exact .inr ⟨m, h1, h2.keep (ho.block m h4 h3), h3, Nat.lt_of_lt_of_le h4 ho.size⟩
theorem mapeq_none (w : World) : (binOp .eql MapT (.map none) (.map none)).run Tryd.prog w = .ok (.bool true) w := rfl
theorem mapeq_some (m : Nat) (w : World) : (binOp .eql MapT (.map (some m)) (.map none)).run Tryd.prog w = .ok (.bool false) w := rfl
set_option maxRecDepth 100000 in
set_option maxHeartbeats 4000000 in
theorem escape_any (t : ByteArray) (a b : Nat) (sh : Value) (w : World) (hb : w.heap[b]? = some (rdB t a sh)) (ht : t.size ≤ 100000) (hsh : ShOk b sh w) :
    Calls Tryd.prog 50 #[.pointer (some ⟨b, 0, none⟩)] w fun e w' => Oth b w w' ∧ OutN t b (fun s w' => ShOk b s w') e w' (escV t.data.toList a) := by
  have hbl : b < w.heap.size := (Array.getElem?_eq_some_iff.1 hb).1
  have KY := Lib.hid (fun w => must_yes 11 w)
  have KN := Lib.hid (fun w => must_no 11 w)
  have KM := Lib.hid (fun w => meanings_any w)
  obtain ⟨R, hR⟩ : ∃ R, escV t.data.toList a = R := ⟨_, rfl⟩
  rw [hR]
  have HR := Lib.hid hR
  clear hR
  have e1 : escV t.data.toList a = if t.data.toList.length ≤ a then .error 5 else if at_ t.data.toList a = 117 then numV t.data.toList (a + 1) else match meanV (at_ t.data.toList a) with
    | none => .error 11
    | some n => .ok (n, a + 1) := rfl
  rw [len_of] at e1
  by_cases c1 : a < t.size
  · rw [if_neg (by omega)] at e1
    have KT1 := take_yes t a b sh w hb ht c1
    rw [at_get c1] at KT1
    obtain ⟨C, hC⟩ : ∃ C, at_ t.data.toList a = C := ⟨_, rfl⟩
    have hC2 : C < 256 := by rw [← hC]; exact at_lt _ _
    rw [hC] at KT1 e1
    have KT := Lib.hid KT1
    have q1 : IntKind.i32.wrap (C : Int) = (C : Int) := IntWalk.i32_in _ (by omega)
    have E1 := Lib.hid e1
    clear KT1 e1 hC hb
    by_cases c2 : C = 117
    · have e2 : ((C : Int) == 117) = true := by simp [c2]
      have E2 := E1.out
      rw [if_pos c2] at E2
      have E3 := Lib.hid E2
      clear E1 E2 c2
      have KNum := Lib.hid (fun w hb => number_any t (a + 1) b sh w hb ht (by omega))
      go_enter Tryd.func50, Tryd.ntmps50
      go_wp2_with fail
      refine KT.out.mono ?_
      rintro e w1 ⟨rfl, hb1, ho1⟩
      go_wp2_with fail
      refine (KNum.out _ hb1).mono ?_
      rintro e w2 ⟨ho2, hr2⟩
      obtain rfl := HR.out.symm.trans E3.out
      cases hv : numV t.data.toList (a + 1) with
      | error m =>
        rw [hv] at hr2
        obtain rfl : e = .panicked (pch (m : Int)) := hr2
        go_wp2_with fail
        exact ⟨rfl, ho1.trans ho2, by rw [hv]; exact rfl⟩
      | ok r =>
        obtain ⟨n, a'⟩ := r
        rw [hv] at hr2
        obtain ⟨rfl, ⟨sh', hb2, rfl⟩, hcp, ha'⟩ := hr2
        go_wp2_with fail
        go_ret
        exact ⟨ho1.trans ho2, by rw [hv]; exact ⟨rfl, ⟨_, hb2, hsh.keep (ho1.trans ho2)⟩, hcp, ha'⟩⟩
    · have e2 : ((C : Int) == 117) = false := by simp; omega
      have E2 := E1.out
      rw [if_neg c2] at E2
      have E3 := Lib.hid E2
      clear E1 E2 c2
      have hz : ∀ w : World, (zeroValue 21).run Tryd.prog w = .ok (i32 0) w := Tryd.zeroValue21
      have klook : ∀ (m : Nat) (w : World), MeanAt m w → (Instr.lookup MapT (.map (some m)) (i32 (C : Int)) true).run Tryd.prog w = .ok (.tuple #[(ansV (meanV C)).1, .bool (ansV (meanV C)).2]) w := fun m w hm => by
        obtain ⟨es, ck, hmb, hl⟩ := hm.look
        obtain ⟨r, hf, hr⟩ := hl C
        have := run_look (P := Tryd.prog) (z := i32 0) Tryd.underlying82 Tryd.underlying21 hmb (key := i32 (C : Int)) rfl (hz w) hf true
        rw [if_pos rfl, hr] at this
        exact this
      have fin : ∀ (v : Value) (bo : Bool), ansV (meanV C) = (v, bo) → (bo = true ∧ ∃ n : Nat, v = i32 (n : Int) ∧ isCp n ∧ R = .ok (n, a + 1)) ∨ (bo = false ∧ v = i32 0 ∧ R = .error 11) := fun v bo hv => by
        have hRE := HR.out.symm.trans E3.out
        cases hm : meanV C with
        | none =>
          rw [hm] at hv hRE
          cases hv
          exact .inr ⟨rfl, rfl, hRE⟩
        | some n =>
          rw [hm] at hv hRE
          cases hv
          exact .inl ⟨rfl, n, rfl, mean_cp hm, hRE⟩
      obtain ⟨v, bo, hvb⟩ : ∃ v bo, ansV (meanV C) = (v, bo) := ⟨_, _, rfl⟩
      have hfin := Lib.hid (fin v bo hvb)
      rw [hvb] at klook
      simp only at klook
      have KLK := Lib.hid klook
      clear fin klook hvb
      go_enter Tryd.func50, Tryd.ntmps50
      go_wp2_with fail
      refine KT.out.mono ?_
      rintro e w1 ⟨rfl, hb1, ho1⟩
      obtain ⟨-, -, cs⟩ := rd_cells hb1
      have fs := rd_frozen hb1 2
      have hsh1 := hsh.keep ho1
      rcases hsh1 with rfl | ⟨m, rfl, hm, hmb, hml⟩
      · have hEq := mapeq_none
        go_wp2_with fail
        refine (KM.out _).mono ?_
        rintro e w2 ⟨m, rfl, hm, hml, hb2⟩
        have hbl1 : b < w1.heap.size := Nat.lt_of_lt_of_le hbl ho1.size
        have hb3 : w2.heap[b]? = some (rdB t (a + 1) (.map none)) := (hb2.block b hbl1).trans hb1
        have hmb : m ≠ b := by omega
        have hm3 : MeanAt m (w2.setCell ⟨b, 2, none⟩ (.map (some m))) := hm.keep (Below.heap_setCell w2 ⟨b, 2, none⟩ _ m hmb)
        have hlk := KLK.out m _ hm3
        obtain ⟨-, -, cs2⟩ := rd_cells hb3
        have fs2 := rd_frozen hb3 2
        have hb4 := rd_setS hb3 (.map (some m))
        obtain ⟨-, -, cs3⟩ := rd_cells hb4
        have ho3 : Oth b w (w2.setCell ⟨b, 2, none⟩ (.map (some m))) := (ho1.trans (Oth.below hb2)).setCell 2 _
        have hlm : m < (w2.setCell ⟨b, 2, none⟩ (.map (some m))).heap.size := by
          obtain ⟨es, ck, hmm, -⟩ := hm3
          exact (Array.getElem?_eq_some_iff.1 hmm).1
        clear hb3 cs fs hEq
        rcases hfin.out with ⟨rfl, n, rfl, hcp, hRn⟩ | ⟨rfl, rfl, hRn⟩
        · have HH := Lib.hid (And.intro hcp hRn)
          clear hfin hcp hRn E3
          go_wp2_with fail
          refine (KY.out _).mono ?_
          rintro e w4 ⟨rfl, rfl⟩
          go_wp2_with fail
          go_ret
          rw [HH.out.2]
          exact ⟨ho3, rfl, ⟨_, hb4, .inr ⟨m, rfl, hm3, hmb, hlm⟩⟩, HH.out.1, by omega⟩
        · have HH := Lib.hid hRn
          clear hfin hRn E3
          go_wp2_with fail
          refine (KN.out _).mono ?_
          rintro e w4 ⟨rfl, rfl⟩
          go_wp2_with fail
          rw [HH.out]
          exact ⟨rfl, ho3, rfl⟩
      · have hEq := mapeq_some m
        have hlk := KLK.out m _ hm
        rcases hfin.out with ⟨rfl, n, rfl, hcp, hRn⟩ | ⟨rfl, rfl, hRn⟩
        · have HH := Lib.hid (And.intro hcp hRn)
          clear hfin hcp hRn E3
          go_wp2_with fail
          refine (KY.out _).mono ?_
          rintro e w4 ⟨rfl, rfl⟩
          go_wp2_with fail
          go_ret
          rw [HH.out.2]
          exact ⟨ho1, rfl, ⟨_, hb1, .inr ⟨m, rfl, hm, hmb, hml⟩⟩, HH.out.1, by omega⟩
        · have HH := Lib.hid hRn
          clear hfin hRn E3
          go_wp2_with fail
          refine (KN.out _).mono ?_
          rintro e w4 ⟨rfl, rfl⟩
          go_wp2_with fail
          rw [HH.out]
          exact ⟨rfl, ho1, rfl⟩
  · rw [if_pos (by omega)] at e1
    have KU := Lib.hid (take_no t a b sh w hb ht (by omega))
    have E3 := Lib.hid e1
    clear e1
    go_enter Tryd.func50, Tryd.ntmps50
    go_wp2_with fail
    refine KU.out.mono ?_
    rintro e w1 ⟨rfl, ho1⟩
    go_wp2_with fail
    obtain rfl := HR.out.symm.trans E3.out
    exact ⟨rfl, ho1, rfl⟩
end Go.Proofs.YtndifilhfiooaaaDoor
namespace Go.Proofs.YtndifilhfiooaaaDoor
set_option maxRecDepth 20000
set_option linter.unusedSimpArgs false
set_option linter.unusedVariables false
open Go.RowKit Go.Lib Go.Shelf
attribute [local go_sem] Oper.semAt_some
def pre (P : List UInt8) : Except Nat (List UInt8 × Nat) → Except Nat (List UInt8 × Nat)
  | .ok (s, a) => .ok (P ++ s, a)
  | .error m => .error m
theorem pre_pre (P Q : List UInt8) (r : Except Nat (List UInt8 × Nat)) : pre P (pre Q r) = pre (P ++ Q) r := by
  cases r with
  | error m => rfl
  | ok x => obtain ⟨s, a⟩ := x; simp [pre]
theorem pre_nil (r : Except Nat (List UInt8 × Nat)) : pre [] r = r := by
  cases r with
  | error m => rfl
  | ok x => rfl
/-- What stands from a place on up to a quotation mark, and the place behind that. -/
def unq (L : List UInt8) (i : Nat) : Except Nat (List UInt8 × Nat) :=
  if L.length ≤ i then .error 5 else if at_ L i = 34 then .ok ([], i + 1) else if at_ L i < 32 then .error 6 else
  if at_ L i = 92 then match escV L (i + 1) with
    | .error m => .error m
    | .ok (n, a) => if i < a then pre (form n) (unq L a) else .error 0
  else match nx (L.drop i) with
    | none => .error 10
    | some (_, k) => if 0 < k then pre ((L.drop i).take k) (unq L (i + k)) else .error 0
termination_by L.length - i
theorem num_lt {L : List UInt8} {a n a' : Nat} (h : numV L a = .ok (n, a')) : a < a' := by
  unfold numV at h
  split at h
  · cases h
  · split at h
    · cases h; omega
    · repeat' (split at h; · cases h)
      have := (Prod.mk.inj (Except.ok.inj h)).2
      omega
theorem esc_lt {L : List UInt8} {a n a' : Nat} (h : escV L a = .ok (n, a')) : a < a' := by
  unfold escV at h
  split at h
  · cases h
  · split at h
    · have := num_lt h; omega
    · split at h
      · cases h
      · cases h; omega
section
variable {L : List UInt8} {i : Nat}
theorem unq_end (h : L.length ≤ i) : unq L i = .error 5 := by rw [unq, if_pos h]
theorem unq_quote (h : i < L.length) (hc : at_ L i = 34) : unq L i = .ok ([], i + 1) := by rw [unq, if_neg (by omega), if_pos hc]
theorem unq_low (h : i < L.length) (hc : at_ L i < 32) : unq L i = .error 6 := by rw [unq, if_neg (by omega), if_neg (by omega), if_pos hc]
theorem unq_esc (h : i < L.length) (hc : at_ L i = 92) : unq L i = match escV L (i + 1) with | .error m => .error m | .ok (n, a) => pre (form n) (unq L a) := by
  rw [unq, if_neg (by omega), if_neg (by omega), if_neg (by omega), if_pos hc]
  cases he : escV L (i + 1) with
  | error m => rfl
  | ok r =>
    obtain ⟨n, a⟩ := r
    have := esc_lt he
    simp only
    rw [if_pos (by omega)]
theorem unq_cp (h : i < L.length) (h1 : at_ L i ≠ 34) (h2 : 32 ≤ at_ L i) (h3 : at_ L i ≠ 92) : unq L i = match nx (L.drop i) with | none => .error 10 | some (_, k) => pre ((L.drop i).take k) (unq L (i + k)) := by
  rw [unq, if_neg (by omega), if_neg h1, if_neg (by omega), if_neg h3]
  cases he : nx (L.drop i) with
  | none => rfl
  | some r =>
    obtain ⟨n, k⟩ := r
    have := (nx_lt he).2
    simp only
    rw [if_pos (by omega)]
end
/-- A stretch of bytes. -/
def seg (L : List UInt8) (a i : Nat) : List UInt8 := (L.drop a).take (i - a)
theorem seg_nil (L : List UInt8) (a : Nat) : seg L a a = [] := by simp [seg]
theorem seg_add (L : List UInt8) {a i k : Nat} (h : a ≤ i) : seg L a i ++ (L.drop i).take k = seg L a (i + k) := by
  unfold seg
  rw [show i + k - a = (i - a) + k by omega, List.take_add, List.drop_drop, show a + (i - a) = i by omega]
def TabsO (b : Nat) (w : World) : Prop := Tabs w ∧ Tryd.lays197_ren.g 3 ≠ b ∧ Tryd.lays197_ren.g 4 ≠ b
theorem TabsO.keep {b : Nat} {w w' : World} (h : TabsO b w) (ho : Oth b w w') : TabsO b w' := by
  obtain ⟨h, n3, n4⟩ := h
  obtain ⟨z3, z4⟩ := tabs_size h
  refine ⟨⟨fun c hc => ?_, fun i hi => ⟨?_, ?_⟩⟩, n3, n4⟩
  · rw [World.cell?_of_block (ho.block _ z3 n3)]; exact h.1 c hc
  · rw [World.cell?_of_block (ho.block _ z4 n4)]; exact (h.2 i hi).1
  · rw [World.cell?_of_block (ho.block _ z4 n4)]; exact (h.2 i hi).2
/-- How plain ends. -/
def OutP (t : ByteArray) (a b : Nat) (sh : Value) (e : Ending) (w' : World) : Prop :=
  (∃ i, a ≤ i ∧ i < t.size ∧ (at_ t.data.toList i = 34 ∨ at_ t.data.toList i = 92) ∧ e = .returned (.string ⟨(seg t.data.toList a i).toArray⟩) ∧ w'.heap[b]? = some (rdB t i sh) ∧ unq t.data.toList a = pre (seg t.data.toList a i) (unq t.data.toList i)) ∨
  ∃ m : Nat, e = .panicked (pch (m : Int)) ∧ unq t.data.toList a = .error m
theorem ext_seg (t : ByteArray) {a i : Nat} (h : a ≤ i) : t.extract a i = ⟨(seg t.data.toList a i).toArray⟩ := by
  have := extract_mid t a (i - a)
  rw [show a + (i - a) = i by omega] at this
  exact this
set_option maxRecDepth 100000 in
set_option maxHeartbeats 4000000 in
theorem plain_any (t : ByteArray) (a b : Nat) (sh : Value) (w : World) (hb : w.heap[b]? = some (rdB t a sh)) (ht : t.size ≤ 100000) (ha : a ≤ t.size) (hT : TabsO b w) :
    Calls Tryd.prog 47 #[.pointer (some ⟨b, 0, none⟩)] w fun e w' => Oth b w w' ∧ OutP t a b sh e w' := by
  obtain ⟨L, hL⟩ : ∃ L, t.data.toList = L := ⟨_, rfl⟩
  have hlen : L.length = t.size := by rw [← hL]; exact len_of t
  obtain ⟨-, c1, -⟩ := rd_cells hb
  go_enter Tryd.func47, Tryd.ntmps47
  go_wp2_with fail
  go_loopw [] (fun wr => ∃ i : Nat, a ≤ i ∧ i ≤ t.size ∧ wr.heap[b]? = some (rdB t i sh) ∧ Oth b w wr ∧ unq L a = pre (seg L a i) (unq L i)) (fun wr => match wr.cell? ⟨b, 1, none⟩ with | some v => t.size - (RowKit.intOf v).toNat | none => 0)
  case atStart => exact ⟨a, Nat.le_refl _, ha, hb, Oth.refl b w, by rw [seg_nil, pre_nil]⟩
  case round =>
    obtain ⟨i, hai, his, hbi, hO, hU⟩ := hrel
    obtain ⟨r0, r1, -⟩ := rd_cells hbi
    have f1 := rd_frozen hbi 1
    have hm : Tryd.prog.follows .mixedOrders = true := by kernel_rfl
    by_cases hs : i < t.size
    · have p1 : (i : Int) < (t.size : Int) := by omega
      have KY5 := Lib.hid (fun w => must_yes 5 w)
      have hg := at_get hs
      rw [hL] at hg
      obtain ⟨C, hC⟩ : ∃ C, at_ L i = C := ⟨_, rfl⟩
      have hC2 : C < 256 := by rw [← hC]; exact at_lt _ _
      rw [hC] at hg
      have HU := Lib.hid hU
      have HO := Lib.hid hO
      have HB := Lib.hid hbi
      clear hU hO hbi c1 hb
      by_cases c34 : C = 34 ∨ C = 92
      · have HX := Lib.hid (ext_seg t hai)
        rw [hL] at HX
        have q1 : (a : Int) ≤ (i : Int) := by omega
        have q2 : (i : Int) ≤ (t.size : Int) := by omega
        have HC := Lib.hid hC
        clear hC
        have fin : ∀ w', Oth b wr w' → w'.heap[b]? = wr.heap[b]? → Oth b w w' ∧ OutP t a b sh (.returned (.string (t.extract a i))) w' := fun w' h1 h2 => ⟨HO.out.trans h1, .inl ⟨i, hai, hs, by rw [hL, HC.out]; exact c34, by rw [HX.out, hL], h2.trans HB.out, by rw [hL]; exact HU.out⟩⟩
        rcases c34 with rfl | rfl
        · go_wp2_with (go_quiet ((go_at_call 41; exact Calls.quiet_of_same (KY5.out _))))
          go_ret
          exact fin _ (((Oth.refl b wr).drewN _).drewN _) rfl
        · go_wp2_with (go_quiet ((go_at_call 41; exact Calls.quiet_of_same (KY5.out _))))
          go_ret
          exact fin _ (((Oth.refl b wr).drewN _).drewN _) rfl
      · have n34 : C ≠ 34 := fun h => c34 (.inl h)
        have n92 : C ≠ 92 := fun h => c34 (.inr h)
        have e34 : ((C : Int) == 34) = false := by simp; omega
        have e92 : ((C : Int) == 92) = false := by simp; omega
        have hi' : i < L.length := by omega
        by_cases c32 : 32 ≤ C
        · have hU2 := unq_cp hi' (by rw [hC]; exact n34) (by rw [hC]; exact c32) (by rw [hC]; exact n92)
          have HU2 := Lib.hid hU2
          clear hU2
          have KY6 := Lib.hid (fun w => must_yes 6 w)
          have KY10 := Lib.hid (fun w => must_yes 10 w)
          have KN10 := Lib.hid (fun w => must_no 10 w)
          have hTr := hT.keep HO.out
          have hN := fun w hT => next_any t (i : Int) w hT
          rw [hL, nextV_nat] at hN
          have KNx := Lib.hid hN
          have p32 : (32 : Int) ≤ (C : Int) := by omega
          clear hN hC c34 n34 n92
          go_wp2_with (go_quiet ((go_at_call 41; exact Calls.quiet_of_same (KY5.out _))))
          refine (KY6.out _).mono ?_
          rintro e w1 ⟨rfl, hw1⟩
          have z0 : w1.cell? ⟨b, 0, none⟩ = some (.string t) := by rw [hw1]; exact r0
          have z1 : w1.cell? ⟨b, 1, none⟩ = some (.int .i64 (i : Int)) := by rw [hw1]; exact r1
          have g1 : w1.heap[b]? = some (rdB t i sh) := by rw [hw1]; exact HB.out
          have ho1 : Oth b wr w1 := by rw [hw1]; exact (Oth.refl b wr).drewN _
          have hT1 := hTr.keep ho1
          clear hw1 hTr hg r0 r1 f1
          cases hx : nx (L.drop i) with
          | none =>
            rw [hx] at KNx HU2
            simp only [retN] at KNx
            go_wp2_with fail
            have d0 := fun d os => cell_regrown z0 d os
            have d1 := fun d os => cell_regrown z1 d os
            have kn := Lib.hid (fun d os => KNx.out (Sort.grow (redrawn w1 d) os) (tabs_low (tabs_size hT1.1) hT1.1 (below_regrown w1 d os)))
            refine wp_region_quiet_below hm (by kernel_rfl) ?_
            repeat (go_big_quiet_step (first | (go_at_call 52; exact Calls.regrown_of (kn.out _ _))))
            refine wpQuiet_nil ?_
            intro W hW
            have hbW : Below w1.heap.size w1 W := by obtain ⟨p, rfl⟩ := hW; exact below_regrown _ _ _
            have hoo := (HO.out.trans ho1).trans (Oth.below hbW)
            clear hW d0 d1
            go_wp2_with fail
            refine (KN10.out _).mono ?_
            rintro e w2 ⟨rfl, rfl⟩
            go_wp2_with fail
            exact ⟨rfl, hoo, .inr ⟨10, rfl, by rw [hL, HU.out, HU2.out]; exact rfl⟩⟩
          | some r =>
            obtain ⟨n, k⟩ := r
            rw [hx] at KNx HU2
            simp only [retN] at KNx HU2
            obtain ⟨hk1, hk2, hk3⟩ := nx_pos hx
            rw [List.length_drop] at hk2
            have q3 : IntKind.i64.wrap ((i : Int) + (k : Int)) = (i : Int) + (k : Int) := IntWalk.i64_in _ (by omega)
            have HQ := Lib.hid q3
            clear q3
            go_wp2_with fail
            have d0 := fun d os => cell_regrown z0 d os
            have d1 := fun d os => cell_regrown z1 d os
            have kn := Lib.hid (fun d os => KNx.out (Sort.grow (redrawn w1 d) os) (tabs_low (tabs_size hT1.1) hT1.1 (below_regrown w1 d os)))
            refine wp_region_quiet_below hm (by kernel_rfl) ?_
            repeat (go_big_quiet_step (first | (go_at_call 52; exact Calls.regrown_of (kn.out _ _))))
            refine wpQuiet_nil ?_
            intro W hW
            have hbW : Below w1.heap.size w1 W := by obtain ⟨p, rfl⟩ := hW; exact below_regrown _ _ _
            have hoo := (HO.out.trans ho1).trans (Oth.below hbW)
            have gW : W.heap[b]? = some (rdB t i sh) := (hbW.block b (Array.getElem?_eq_some_iff.1 g1).1).trans g1
            obtain ⟨-, y1, -⟩ := rd_cells gW
            have fW := rd_frozen gW 1
            have q3 := HQ.out
            have g2 := rd_set gW (i + k)
            have ho2 := hoo.setCell 1 (.int .i64 ((i + k : Nat) : Int))
            have hm1 : (wr.cell? ⟨b, 1, none⟩) = some (.int .i64 (i : Int)) := (rd_cells HB.out).2.1
            have hm2 := (rd_cells g2).2.1
            have HH := Lib.hid (And.intro g2 (And.intro ho2 (And.intro hm1 hm2)))
            clear hW d0 d1 g2 ho2 hm1 hm2 z0 z1 g1
            go_wp2_with fail
            refine (KY10.out _).mono ?_
            rintro e w2 ⟨rfl, rfl⟩
            go_wp2_with fail
            go_roundw
            case rel => exact ⟨i + k, by omega, by omega, HH.out.1, HH.out.2.1, by rw [HU.out, HU2.out, pre_pre, seg_add L hai]⟩
            case measure =>
              rw [HH.out.2.2.1]
              have e2 := HH.out.2.2.2
              rw [Int.natCast_add] at e2
              rw [e2]
              simp only [RowKit.intOf]
              omega
        · have KN6 := Lib.hid (fun w => must_no 6 w)
          have HC := Lib.hid hC
          clear hC c34
          go_wp2_with (go_quiet ((go_at_call 41; exact Calls.quiet_of_same (KY5.out _))))
          rw [decide_eq_false (show ¬ (32 : Int) ≤ (C : Int) by omega)]
          refine (KN6.out _).mono ?_
          rintro e w1 ⟨rfl, hw1⟩
          have ho1 : Oth b wr w1 := by rw [hw1]; exact (Oth.refl b wr).drewN _
          clear hw1
          go_wp2_with fail
          exact ⟨rfl, HO.out.trans ho1, .inr ⟨6, rfl, by rw [hL, HU.out, unq_low hi' (by rw [HC.out]; omega)]; exact rfl⟩⟩
    · have q1 : ¬ (i : Int) < (t.size : Int) := by omega
      have KN5 := Lib.hid (fun w => must_no 5 w)
      have d0 := fun d os => cell_regrown r0 d os
      have d1 := fun d os => cell_regrown r1 d os
      clear hb hbi c1
      go_upto_region 2 with fail
      refine wp_region_inw 10 hm (by decide) (by kernel_rfl) (by kernel_rfl) ?_
      repeat (refine inw_val (v := ?_) (by rfl) (by rfl) (fun d os => ?_) ?_; rotate_left; (focus (go_simp; (try with_reducible rfl); done)); simp only [nm0, nm1, nm2, nm3])
      refine inw_panic (n := 10) (f := 41) ?hr rfl ?hw rfl (fun W => ?he) KN5.out (fun W hW => ?hk)
      case hr => decide +kernel
      case hw => rfl
      case he => go_simp
      case hk =>
        go_wp2_with fail
        exact ⟨rfl, hO.trans (Oth.below hW), .inr ⟨5, rfl, by rw [hL, hU, unq_end (by omega)]; exact rfl⟩⟩
end Go.Proofs.YtndifilhfiooaaaDoor
namespace Go.Proofs.YtndifilhfiooaaaDoor
set_option maxRecDepth 20000
set_option linter.unusedSimpArgs false
set_option linter.unusedVariables false
open Go.RowKit Go.Lib Go.Shelf
attribute [local go_sem] Oper.semAt_some
end Go.Proofs.YtndifilhfiooaaaDoor
namespace Go.Proofs.YtndifilhfiooaaaDoor
set_option maxRecDepth 20000
set_option linter.unusedSimpArgs false
set_option linter.unusedVariables false
open Go.RowKit Go.Lib Go.Shelf
attribute [local go_sem] Oper.semAt_some
theorem four_no0 (L : List UInt8) : ∀ (k a n : Nat), fourAt L k a n ≠ .error 0
  | 0, _, _ => by simp [fourAt]
  | k + 1, a, n => by
    unfold fourAt
    split
    · simp
    · split
      · simp
      · exact four_no0 L k _ _
end Go.Proofs.YtndifilhfiooaaaDoor
namespace Go.Proofs.YtndifilhfiooaaaDoor
set_option maxRecDepth 20000
set_option linter.unusedSimpArgs false
set_option linter.unusedVariables false
open Go.RowKit Go.Lib Go.Shelf
attribute [local go_sem] Oper.semAt_some
end Go.Proofs.YtndifilhfiooaaaDoor
namespace Go.Proofs.YtndifilhfiooaaaDoor
set_option maxRecDepth 20000
set_option linter.unusedSimpArgs false
set_option linter.unusedVariables false
open Go.RowKit Go.Lib Go.Shelf
attribute [local go_sem] Oper.semAt_some
theorem bw_any (B b : Nat) (acc P : List UInt8) (w : World) (h : IsB B b (byteCells acc) w) (hlen : acc.length + P.length ≤ 1000000) (hBw : B ≤ w.heap.size) :
    Calls Tryd.prog 46 #[.pointer (some ⟨b, 0, none⟩), .string ⟨P.toArray⟩] w fun e w' => e = .returned (.tuple #[.int .i64 (P.length : Int), .nilIface]) ∧ IsB B b (byteCells (acc ++ P)) w' ∧ Below B w w' ∧ Lib.OthersKept ByTy (some b) w w' := by
  have hz : (⟨P.toArray⟩ : ByteArray).size = P.length := by rw [Lib.size_eq]
  refine (bwrites_any B b _ ⟨P.toArray⟩ w h (by rw [byteCells_length, hz]; omega) hBw).mono fun e w' ⟨he, hb, h2⟩ => ⟨by rw [he, hz], ?_, h2⟩
  rw [byteCells_append]
  exact .inr hb
theorem put1_any (n g : Nat) (hn : isCp n) (w : World) (hc : w.cell? ⟨g, 0, none⟩ = some (i32 (n : Int))) :
    Calls Tryd.prog 49 #[.slice (some ⟨g, 0, none⟩) 1 1] w fun e w' => e = .returned (.tuple #[.string ⟨(form n).toArray⟩, .int .i64 0]) ∧ Below w.heap.size w w' := by
  have z0 : ∀ i, i < 1 → i = 0 := fun i hi => by omega
  have hok : okP [(n : Int)] 1 := fun i hi => by rw [z0 i hi]; exact valid_of_cp hn
  have hn2 := hn.1
  refine (put_any g 0 1 1 [(n : Int)] w (by omega) (fun _ => blk_of_cell hc) (fun i hi => by rw [z0 i hi]; exact hc) (fun i hi => by rw [z0 i hi]; show _ ≤ (n : Int) ∧ (n : Int) ≤ _; omega) _ (fun _ => rfl)).mono fun e w' ⟨he, hb⟩ => ⟨?_, hb⟩
  rcases he with ⟨-, he⟩ | ⟨hno, -⟩
  · rw [he]
    unfold retP formsB formsB form
    simp
  · exact absurd hok hno
theorem form_few (n : Nat) : (form n).length ≤ 4 := rune_few _
/-- How text ends. -/
def OutT (t : ByteArray) (a b : Nat) (e : Ending) (w' : World) : Prop :=
  (∃ s i sh, e = .returned (.string ⟨s.toArray⟩) ∧ w'.heap[b]? = some (rdB t i sh) ∧ i ≤ t.size ∧ unq t.data.toList a = .ok (s, i)) ∨ ∃ m : Nat, e = .panicked (pch (m : Int)) ∧ unq t.data.toList a = .error m
theorem mean_other {m bld B : Nat} {bs : List Value} {w : World} (hm : MeanAt m w) (hB : IsB B bld bs w) : m ≠ bld := by
  rintro rfl
  obtain ⟨es, ck, h, -⟩ := hm
  rcases hB with ⟨-, v, h2, -⟩ | ⟨-, v, h2, -⟩ <;> (rw [h] at h2; cases h2)
theorem ShOk.others {b bld B : Nat} {sh : Value} {bs : List Value} {w w' : World} (h : ShOk b sh w) (hB : IsB B bld bs w) (hs : w.heap.size ≤ w'.heap.size) (ho : Lib.OthersKept ByTy (some bld) w w') : ShOk b sh w' := by
  rcases h with h | ⟨m, h1, h2, h3, h4⟩
  · exact .inl h
  · refine .inr ⟨m, h1, h2.keep ?_, h3, Nat.lt_of_lt_of_le h4 hs⟩
    obtain ⟨es, ck, hm, -⟩ := id h2
    rw [hm]
    exact ho m _ hm (fun e => mean_other h2 hB (Option.some.inj e)) (fun c fz e => by cases e)
/-- What text carries from round to round. -/
structure TxI (t : ByteArray) (a b bld : Nat) (w : World) (i : Nat) (acc : List UInt8) (sh : Value) (wr : World) : Prop where
  le : i ≤ t.size
  rd : wr.heap[b]? = some (rdB t i sh)
  ok : ShOk b sh wr
  oth : Oth b w wr
  bl : IsB w.heap.size bld (byteCells acc) wr
  eq : unq t.data.toList a = pre acc (unq t.data.toList i)
  few : acc.length ≤ 4 * i
theorem IsB.oth {B b bld : Nat} {bs : List Value} {w w' : World} (h : IsB B bld bs w) (hb : b < B) (ho : Oth b w w') : IsB B bld bs w' :=
  h.keep fun k hk hl => ho.block k hl (by omega)
set_option maxRecDepth 100000 in
set_option maxHeartbeats 4000000 in
theorem text_any (t : ByteArray) (a b : Nat) (w : World) (hb : w.heap[b]? = some (rdB t a (.map none))) (ht : t.size ≤ 100000) (ha : a ≤ t.size) (hT : TabsO b w) :
    Calls Tryd.prog 43 #[.pointer (some ⟨b, 0, none⟩)] w fun e w' => Oth b w w' ∧ OutT t a b e w' := by
  have hbl : b < w.heap.size := (Array.getElem?_eq_some_iff.1 hb).1
  have KP := Lib.hid (fun i sh w hb hi hT => plain_any t i b sh w hb ht hi hT)
  have KW := Lib.hid (fun bld acc P W h hl hs => bw_any w.heap.size bld acc P W h hl hs)
  have KS := Lib.hid (fun bld l W h hs => Tryd.Builder_String_any_k w.heap.size bld l W h hs)
  have KE := Lib.hid (fun i sh w hb hs => escape_any t i b sh w hb ht hs)
  have KPut := Lib.hid (fun n g hn w hc => put1_any n g hn w hc)
  go_enter Tryd.func43, Tryd.ntmps43
  obtain ⟨bld, hbld⟩ : ∃ x, w.heap.size = x := ⟨_, rfl⟩
  have hnew : (w.alloc (.cells #[.pointer none, .slice none 0 0] BTy)).heap[bld]? = some (.cells #[.pointer none, .slice none 0 0] BTy (0, 0)) := by rw [← hbld]; exact World.alloc_heap_new w _
  have hO0 : Oth b w (w.alloc (.cells #[.pointer none, .slice none 0 0] BTy)) := Oth.below ((Below.refl _ w).alloc (Nat.le_refl _) _)
  have hb0 : (w.alloc (.cells #[.pointer none, .slice none 0 0] BTy)).heap[b]? = some (rdB t a (.map none)) := (Below.heap_alloc w _ b hbl).trans hb
  have hI0 : TxI t a b bld w a [] (.map none) (w.alloc (.cells #[.pointer none, .slice none 0 0] BTy)) :=
    ⟨ha, hb0, .inl rfl, hO0, .inl ⟨by omega, _, hnew, World.ownsRowF_nil _ _ _ _, by simp [Value.ownBlock]⟩, by rw [pre_nil], by simp⟩
  have HI0 := Lib.hid hI0
  clear hnew hO0 hb0 hI0
  go_wp2_with fail

  go_loopw [] (fun wr => ∃ i acc sh, TxI t a b bld w i acc sh wr) (fun wr => match wr.cell? ⟨b, 1, none⟩ with | some v => t.size - (RowKit.intOf v).toNat | none => 0)
  case atStart => exact ⟨a, [], _, HI0.out⟩
  case round =>
    obtain ⟨i, acc, sh, hI⟩ := hrel
    have hsz := hI.oth.size
    go_wp2_with fail
    refine (KP.out i sh wr hI.rd hI.le (hT.keep hI.oth)).mono ?_
    rintro e w1 ⟨ho1, ⟨j, hij, hj, hC, rfl, hb1, hU⟩ | ⟨m, rfl, hU⟩⟩
    · have hsg : (seg t.data.toList i j).length = j - i := by
        unfold seg
        rw [List.length_take, List.length_drop, len_of]
        omega
      obtain ⟨P, hP⟩ : ∃ P, seg t.data.toList i j = P := ⟨_, rfl⟩
      rw [hP] at hsg hU ⊢
      have hfew := hI.few
      have hI1 : TxI t a b bld w j acc sh w1 → True := fun _ => trivial
      have hB1 : IsB w.heap.size bld (byteCells acc) w1 := hI.bl.oth hbl ho1
      have hok1 : ShOk b sh w1 := hI.ok.keep ho1
      have hoo1 := hI.oth.trans ho1
      have HI := Lib.hid hI
      clear hI hI1
      go_wp2_with fail
      refine (KW.out bld acc P w1 hB1 (by omega) hoo1.size).mono ?_
      rintro e w2 ⟨rfl, hB2, hbw2, hot2⟩
      have hb2 : w2.heap[b]? = some (rdB t j sh) := (hbw2.block b hbl).trans hb1
      have hok2 := hok1.others hB1 hbw2.size hot2
      have hoo2 : Oth b w w2 := ⟨hbw2.os.trans hoo1.os, hbw2.tape.trans hoo1.tape, hbw2.output.trans hoo1.output, Nat.le_trans hoo1.size hbw2.size, fun k hk hne => (hbw2.block k hk).trans (hoo1.block k hk hne)⟩
      have KT := take_yes t j b sh w2 hb2 ht hj
      rw [at_get hj] at KT
      obtain ⟨C, hCC⟩ : ∃ C, at_ t.data.toList j = C := ⟨_, rfl⟩
      rw [hCC] at KT hC
      have KT2 := Lib.hid KT
      clear KT hB1 hok1 hoo1 hot2 hbw2 hb1 ho1
      rcases hC with rfl | rfl
      · go_wp2_with fail
        refine KT2.out.mono ?_
        rintro e w3 ⟨rfl, hb3, ho3⟩
        have hB3 := hB2.oth hbl ho3
        have hoo3 := hoo2.trans ho3
        go_wp2_with fail
        refine (KS.out bld (acc ++ P) w3 hB3 hoo3.size).mono ?_
        rintro e w4 ⟨rfl, -, hbw4, -⟩
        have hoo4 : Oth b w w4 := ⟨hbw4.os.trans hoo3.os, hbw4.tape.trans hoo3.tape, hbw4.output.trans hoo3.output, Nat.le_trans hoo3.size hbw4.size, fun k hk hne => (hbw4.block k hk).trans (hoo3.block k hk hne)⟩
        have hb4 := (hbw4.block b hbl).trans hb3
        go_wp2_with fail
        go_ret
        refine ⟨hoo4, .inl ⟨acc ++ P, j + 1, sh, rfl, hb4, hj, ?_⟩⟩
        rw [HI.out.eq, hU, pre_pre, unq_quote (by rw [len_of]; exact hj) hCC]
        simp [pre]
      · have hesc := unq_esc (L := t.data.toList) (i := j) (by rw [len_of]; exact hj) hCC
        go_wp2_with fail
        refine KT2.out.mono ?_
        rintro e w3 ⟨rfl, hb3, ho3⟩
        have hB3 := hB2.oth hbl ho3
        have hoo3 := hoo2.trans ho3
        have hok3 := hok2.keep ho3
        go_wp2_with fail
        refine (KE.out (j + 1) sh w3 hb3 hok3).mono ?_
        rintro e w4 ⟨ho4, hr4⟩
        have hoo4 := hoo3.trans ho4
        have hB4 := hB3.oth hbl ho4
        cases hv : escV t.data.toList (j + 1) with
        | error m =>
          rw [hv] at hr4 hesc
          obtain rfl : e = .panicked (pch (m : Int)) := hr4
          go_wp2_with fail
          exact ⟨rfl, hoo4, .inr ⟨m, rfl, by rw [HI.out.eq, hU, hesc]; rfl⟩⟩
        | ok r =>
          obtain ⟨n, k⟩ := r
          rw [hv] at hr4 hesc
          obtain ⟨rfl, ⟨sh', hb4, hok4⟩, hcp, hk⟩ := hr4
          simp only at hesc hok4
          have hjk := esc_lt hv
          have hfn := form_few n
          have hcell : (w4.alloc (.cells #[i32 (n : Int)] 21)).cell? ⟨w4.heap.size, 0, none⟩ = some (i32 (n : Int)) := (cell_new_l w4 _ _).1
          have KPn := Lib.hid (KPut.out n w4.heap.size hcp _ hcell)
          have hB5 : IsB w.heap.size bld (byteCells (acc ++ P)) (w4.alloc (.cells #[i32 (n : Int)] 21)) := hB4.keep fun k hk hl => Below.heap_alloc w4 _ k hl
          have ho5 : Oth b w4 (w4.alloc (.cells #[i32 (n : Int)] 21)) := Oth.below ((Below.refl _ w4).alloc (Nat.le_refl _) _)
          have hb5 := (Below.heap_alloc w4 (.cells #[i32 (n : Int)] 21) b (Nat.lt_of_lt_of_le hbl hoo4.size)).trans hb4
          have hok5 := hok4.keep ho5
          have H5 := Lib.hid (And.intro hB5 (And.intro hb5 (And.intro hok5 (hoo4.trans ho5))))
          clear hcell hB5 ho5 hb5 hok5
          go_wp2_with fail
          refine KPn.out.mono ?_
          rintro e w6 ⟨rfl, hbw6⟩
          obtain ⟨hB5, hb5, hok5, hoo5⟩ := H5.out
          have hB6 : IsB w.heap.size bld (byteCells (acc ++ P)) w6 := hB5.keep fun k hk hl => hbw6.block k hl
          have ho6 : Oth b _ w6 := Oth.below hbw6
          have hb6 := (hbw6.block b (Nat.lt_of_lt_of_le hbl hoo5.size)).trans hb5
          have hok6 := hok5.keep ho6
          have hoo6 := hoo5.trans ho6
          have hI6 : TxI t a b bld w k (acc ++ P) sh' w6 → True := fun _ => trivial
          clear hB5 hb5 hok5 hoo5 ho6 hbw6 H5 KPn hI6
          go_wp2_with fail
          refine (KW.out bld (acc ++ P) (form n) w6 hB6 (by rw [List.length_append]; omega) hoo6.size).mono ?_
          rintro e w7 ⟨rfl, hB7, hbw7, hot7⟩
          have hb7 : w7.heap[b]? = some (rdB t k sh') := (hbw7.block b hbl).trans hb6
          have hok7 := hok6.others hB6 hbw7.size hot7
          have hoo7 : Oth b w w7 := ⟨hbw7.os.trans hoo6.os, hbw7.tape.trans hoo6.tape, hbw7.output.trans hoo6.output, Nat.le_trans hoo6.size hbw7.size, fun k hk hne => (hbw7.block k hk).trans (hoo6.block k hk hne)⟩
          have hm1 := (rd_cells HI.out.rd).2.1
          have hm2 := (rd_cells hb7).2.1
          have hI7 : TxI t a b bld w k (acc ++ P ++ form n) sh' w7 := ⟨hk, hb7, hok7, hoo7, hB7, by rw [HI.out.eq, hU, hesc, pre_pre, pre_pre], by rw [List.length_append, List.length_append]; omega⟩
          have H7 := Lib.hid (And.intro hI7 (And.intro hm1 hm2))
          clear hI7 hm1 hm2 hB7 hb7 hok7 hoo7 hot7 hbw7
          go_wp2_with fail
          go_roundw
          case rel => exact ⟨_, _, _, H7.out.1⟩
          case measure =>
            rw [H7.out.2.1, H7.out.2.2]
            simp only [RowKit.intOf]
            omega
    · go_wp2_with fail
      exact ⟨rfl, hI.oth.trans ho1, .inr ⟨m, rfl, by rw [hI.eq, hU]; rfl⟩⟩
end Go.Proofs.YtndifilhfiooaaaDoor
namespace Go.Proofs.YtndifilhfiooaaaDoor
set_option maxRecDepth 20000
set_option linter.unusedSimpArgs false
set_option linter.unusedVariables false
open Go.RowKit Go.Lib Go.Shelf
attribute [local go_sem] Oper.semAt_some
/-- What the closure leaves: the three results, and all else as it was. -/
structure Laid3 (p q r : Nat) (s : List UInt8) (i : Int) (m : Int) (w w' : World) : Prop where
  bs : Boxed w' p 9 (.string ⟨s.toArray⟩)
  bi : Boxed w' q 3 (.int .i64 i)
  be : Boxed w' r 25 (.int .i64 m)
  os : w'.os = w.os
  tape : w'.tape = w.tape
  output : w'.output = w.output
  size : w.heap.size ≤ w'.heap.size
  block : ∀ k, k < w.heap.size → k ≠ p → k ≠ q → k ≠ r → w'.heap[k]? = w.heap[k]?
theorem laid3_set (p q r : Nat) (vs vi ve : Value) (s : List UInt8) (i m : Int) (w : World) (ob : Obj) (h1 : Boxed w p 9 vs) (h2 : Boxed w q 3 vi) (h3 : Boxed w r 25 ve) (hpq : p ≠ q) (hpr : p ≠ r) (hqr : q ≠ r) :
    Laid3 p q r s i m w ((((w.setCell ⟨p, 0, none⟩ (.string ⟨s.toArray⟩)).setCell ⟨q, 0, none⟩ (.int .i64 i)).setCell ⟨r, 0, none⟩ (.int .i64 m)).alloc ob).drew := by
  have a1 := h1.set (.string ⟨s.toArray⟩)
  have a2 := a1.other (B' := q) (by omega) (.int .i64 i)
  have a3 := a2.other (B' := r) (by omega) (.int .i64 m)
  have b1 := h2.other (B' := p) (by omega) (.string ⟨s.toArray⟩)
  have b2 := b1.set (.int .i64 i)
  have b3 := b2.other (B' := r) (by omega) (.int .i64 m)
  have d1 := h3.other (B' := p) (by omega) (.string ⟨s.toArray⟩)
  have d2 := d1.other (B' := q) (by omega) (.int .i64 i)
  have d3 := d2.set (.int .i64 m)
  refine ⟨a3.alloc _, b3.alloc _, d3.alloc _, rfl, rfl, rfl, by simp, fun k hk hp hq hr => ?_⟩
  refine (Below.heap_alloc _ _ k (by simpa using hk)).trans ?_
  rw [Below.heap_setCell _ ⟨r, 0, none⟩ _ k hr, Below.heap_setCell _ ⟨q, 0, none⟩ _ k hq, Below.heap_setCell _ ⟨p, 0, none⟩ _ k hp]
theorem assert_wrong (m : Int) (w : World) : (Instr.typeAssert (.iface 80 (.agg #[.int .i64 m])) 20 80 true).run Tryd.prog w = .ok (.tuple #[.agg #[.int .i64 m], .bool true]) w := rfl
set_option maxRecDepth 100000 in
set_option maxHeartbeats 2000000 in
theorem catch_panic (p q r : Nat) (vs vi ve : Value) (m : Int) (w : World) (h1 : Boxed w p 9 vs) (h2 : Boxed w q 3 vi) (h3 : Boxed w r 25 ve) (hpq : p ≠ q) (hpr : p ≠ r) (hqr : q ≠ r) :
    CallsD Tryd.prog 40 #[.pointer (some ⟨p, 0, none⟩), .pointer (some ⟨q, 0, none⟩), .pointer (some ⟨r, 0, none⟩)] (.panicking (pch m)) w fun e u' w' =>
      e = .returned (.tuple #[]) ∧ u' = .panicking [{ v := .iface 80 (.agg #[.int .i64 m]), recovered := true }] ∧ Laid3 p q r [] 0 m w w' := by
  refine callsD_of_wpS Tryd.func40 rfl fun c₀ cs hu => ?_
  have fp := h1.lt
  have fq := h2.lt
  have fr := h3.lt
  have c1 := h1.cell
  have c2 := h2.cell
  have c3 := h3.cell
  have z1 := h1.frozen
  have z2 := h2.frozen
  have z3 := h3.frozen
  apply wpS_seq
  apply wpS_region
  simp [wpOpsS, go_sem, recoverD, hu, Tryd.ntmps40, Exit.thenS, pch]
  have hta := assert_wrong m w
  refine wpS_of_wp ?_
  go_wp2_with (go_region)
  all_goals
    have HL := laid3_set p q r vs vi ve [] 0 m w (.cells #[.int .i64 m] 80) h1 h2 h3 hpq hpr hqr
    cases c₀
    simp_all [bodyPostS, results, Tryd.results40]
set_option maxRecDepth 100000 in
set_option maxHeartbeats 2000000 in
theorem catch_none (p q r : Nat) (w : World) :
    CallsD Tryd.prog 40 #[.pointer (some ⟨p, 0, none⟩), .pointer (some ⟨q, 0, none⟩), .pointer (some ⟨r, 0, none⟩)] .returning w fun e u' w' =>
      e = .returned (.tuple #[]) ∧ u' = .returning ∧ w' = w := by
  refine callsD_of_wpS Tryd.func40 rfl fun c₀ cs hu => ?_
  apply wpS_seq
  apply wpS_region
  simp [wpOpsS, go_sem, recoverD, hu, Tryd.ntmps40, Exit.thenS]
  refine wpS_of_wp ?_
  go_wp2_with fail
  cases c₀
  simp_all [bodyPostS, results, Tryd.results40]
end Go.Proofs.YtndifilhfiooaaaDoor
namespace Go.Proofs.YtndifilhfiooaaaDoor
set_option maxRecDepth 20000
set_option linter.unusedSimpArgs false
set_option linter.unusedVariables false
open Go.RowKit Go.Lib Go.Shelf
attribute [local go_sem] Oper.semAt_some
def unquoteV (L : List UInt8) (a : Int) : Except Nat (List UInt8 × Nat) :=
  if a < 0 ∨ (L.length : Int) < a then .error 1 else if L.length ≤ a.toNat then .error 5 else if at_ L a.toNat ≠ 34 then .error 6 else unq L (a.toNat + 1)
def ansU : Except Nat (List UInt8 × Nat) → List UInt8 × Nat × Nat
  | .ok (s, i) => (s, i, 0)
  | .error m => ([], 0, m)
def retU (x : List UInt8 × Nat × Nat) : Ending := .returned (.tuple #[.string ⟨x.1.toArray⟩, .int .i64 (x.2.1 : Int), .int .i64 (x.2.2 : Int)])
theorem Laid3.post {p : Nat} {s : List UInt8} {i m : Int} {w0 w w' : World} (h : Laid3 p (p + 1) (p + 1 + 1) s i m w w') (hp : w0.heap.size ≤ p) (hb : Below w0.heap.size w0 w) : Below w0.heap.size w0 w' :=
  ⟨h.os.trans hb.os, h.tape.trans hb.tape, h.output.trans hb.output, Nat.le_trans hb.size h.size, fun k hk => (h.block k (Nat.lt_of_lt_of_le hk hb.size) (by omega) (by omega) (by omega)).trans (hb.block k hk)⟩
set_option maxRecDepth 100000 in
set_option maxHeartbeats 4000000 in
theorem unquote_any (t : ByteArray) (a : Int) (w : World) (ht : t.size ≤ 100000) (hT : Tabs w) :
    Calls Tryd.prog 31 #[.string t, .int .i64 a] w fun e w' => e = retU (ansU (unquoteV t.data.toList a)) ∧ Below w.heap.size w w' := by
  have hmf : ∀ (fn : Fn) (first cap : Array Value) (w : World), (Instr.makeFunc fn first cap).run Tryd.prog w = .ok (.func fn first cap) w := fun _ _ _ _ => rfl
  obtain ⟨R, hR⟩ : ∃ R, unquoteV t.data.toList a = R := ⟨_, rfl⟩
  rw [hR]
  have HR := Lib.hid hR
  clear hR
  obtain ⟨p, hp⟩ : ∃ p, w.heap.size = p := ⟨_, rfl⟩
  obtain ⟨W0, hW0⟩ : ∃ W0, ((w.alloc (.cells #[.string ⟨#[]⟩] 9)).alloc (.cells #[.int .i64 0] 3)).alloc (.cells #[.int .i64 0] 25) = W0 := ⟨_, rfl⟩
  have b1 : Boxed W0 p 9 (.string ⟨#[]⟩) := by rw [← hW0, ← hp]; exact ((Boxed.new w _ _).alloc _).alloc _
  have b2 : Boxed W0 (p + 1) 3 (.int .i64 0) := by
    rw [← hW0, ← hp]
    have h := Boxed.new (w.alloc (.cells #[.string ⟨#[]⟩] 9)) 3 (.int .i64 0)
    rw [World.size_alloc] at h
    exact h.alloc _
  have b3 : Boxed W0 (p + 1 + 1) 25 (.int .i64 0) := by
    rw [← hW0, ← hp]
    have h := Boxed.new ((w.alloc (.cells #[.string ⟨#[]⟩] 9)).alloc (.cells #[.int .i64 0] 3)) 25 (.int .i64 0)
    rw [World.size_alloc, World.size_alloc] at h
    exact h
  have hz0 : W0.heap.size = p + 3 := by rw [← hW0, ← hp]; simp
  have hB0 : Below w.heap.size w W0 := by rw [← hW0]; exact (((Below.refl _ w).alloc (Nat.le_refl _) _).alloc (by simp) _).alloc (by simp; omega) _
  have KY1 := Lib.hid (fun w => must_yes 1 w)
  have KN1 := Lib.hid (fun w => must_no 1 w)
  have HW0 := Lib.hid hW0
  clear hW0
  -- the end by a panic
  have dies : ∀ (m : Nat) (W : World), R = .error m → Boxed W p 9 (.string ⟨#[]⟩) → Boxed W (p + 1) 3 (.int .i64 0) → Boxed W (p + 1 + 1) 25 (.int .i64 0) → Below w.heap.size w W →
      ∀ (tm : Array Value), tm[4]? = some (.pointer (some ⟨p, 0, none⟩)) → tm[5]? = some (.pointer (some ⟨p + 1, 0, none⟩)) → tm[6]? = some (.pointer (some ⟨p + 1 + 1, 0, none⟩)) →
      Leaves Tryd.prog Tryd.f31 tm (fun e w' => e = retU (ansU R) ∧ Below w.heap.size w w') [{ target := .fn (.func 40) #[.pointer (some ⟨p, 0, none⟩), .pointer (some ⟨p + 1, 0, none⟩), .pointer (some ⟨p + 1 + 1, 0, none⟩)], args := #[] }] (.panicking (pch (m : Int))) W := by
    intro m W hR h1 h2 h3 hb tm t4 t5 t6
    refine leaves_cons (f := 40) (args := #[.pointer (some ⟨p, 0, none⟩), .pointer (some ⟨p + 1, 0, none⟩), .pointer (some ⟨p + 1 + 1, 0, none⟩)]) (by simp) (by simp [go_sem]) ?_
    refine (catch_panic p (p + 1) (p + 1 + 1) _ _ _ (m : Int) W h1 h2 h3 (by omega) (by omega) (by omega)).mono ?_
    rintro e u' w'' ⟨rfl, rfl, hL⟩
    have hb2 := hL.post (by omega) hb
    have k1 := hL.bs.cell
    have k2 := hL.bi.cell
    have k3 := hL.be.cell
    rw [hR]
    simp [Leaves, settle, results, Tryd.results31, go_sem, k1, k2, k3, t4, t5, t6, retU, ansU, hb2]
  have lives : ∀ (s : List UInt8) (i : Nat) (W : World), R = .ok (s, i) → Boxed W p 9 (.string ⟨s.toArray⟩) → Boxed W (p + 1) 3 (.int .i64 (i : Int)) → Boxed W (p + 1 + 1) 25 (.int .i64 0) → Below w.heap.size w W →
      ∀ (tm : Array Value), tm[4]? = some (.pointer (some ⟨p, 0, none⟩)) → tm[5]? = some (.pointer (some ⟨p + 1, 0, none⟩)) → tm[6]? = some (.pointer (some ⟨p + 1 + 1, 0, none⟩)) →
      Leaves Tryd.prog Tryd.f31 tm (fun e w' => e = retU (ansU R) ∧ Below w.heap.size w w') [{ target := .fn (.func 40) #[.pointer (some ⟨p, 0, none⟩), .pointer (some ⟨p + 1, 0, none⟩), .pointer (some ⟨p + 1 + 1, 0, none⟩)], args := #[] }] .returning W := by
    intro s i W hR h1 h2 h3 hb tm t4 t5 t6
    refine leaves_cons (f := 40) (args := #[.pointer (some ⟨p, 0, none⟩), .pointer (some ⟨p + 1, 0, none⟩), .pointer (some ⟨p + 1 + 1, 0, none⟩)]) (by simp) (by simp [go_sem]) ?_
    refine (catch_none p (p + 1) (p + 1 + 1) W).mono ?_
    rintro e u' w'' ⟨rfl, rfl, rfl⟩
    have k1 := h1.cell
    have k2 := h2.cell
    have k3 := h3.cell
    rw [hR]
    simp [Leaves, settle, results, Tryd.results31, go_sem, k1, k2, k3, t4, t5, t6, retU, ansU, hb]
  have KY6 := Lib.hid (fun w => must_yes 6 w)
  have KN6 := Lib.hid (fun w => must_no 6 w)
  have hTz := tabs_size hT
  have hlen := len_of t
  have dies0 : ∀ (m : Nat) (W : World), R = .error m → Oth (p + 3) W0 W → ∀ (tm : Array Value), tm[4]? = some (.pointer (some ⟨p, 0, none⟩)) → tm[5]? = some (.pointer (some ⟨p + 1, 0, none⟩)) → tm[6]? = some (.pointer (some ⟨p + 1 + 1, 0, none⟩)) →
      Leaves Tryd.prog Tryd.f31 tm (fun e w' => e = retU (ansU R) ∧ Below w.heap.size w w') [{ target := .fn (.func 40) #[.pointer (some ⟨p, 0, none⟩), .pointer (some ⟨p + 1, 0, none⟩), .pointer (some ⟨p + 1 + 1, 0, none⟩)], args := #[] }] (.panicking (pch (m : Int))) W := fun m W hR ho =>
    dies m W hR ((ho.block p (by omega) (by omega)).trans b1) ((ho.block (p + 1) (by omega) (by omega)).trans b2) ((ho.block (p + 1 + 1) (by omega) (by omega)).trans b3) (hB0.trans (ho.low (by omega) (by omega)))
  have HD := Lib.hid dies0
  have HL := Lib.hid lives
  clear dies dies0 lives
  by_cases c1 : a < 0
  · have hRe : R = .error 1 := by rw [← HR.out]; unfold unquoteV; rw [if_pos (.inl c1)]
    go_enter_defers Tryd.func31, Tryd.ntmps31
    go_wp2_with fail
    rw [HW0.out]
    refine (KN1.out _).mono ?_
    rintro e w1 ⟨rfl, rfl⟩
    go_wp2_with fail
    exact HD.out 1 _ hRe (Oth.refl _ _) _ rfl rfl rfl
  have c1' : 0 ≤ a := by omega
  by_cases c2 : (t.size : Int) < a
  · have hRe : R = .error 1 := by rw [← HR.out]; unfold unquoteV; rw [if_pos (.inr (by omega))]
    go_enter_defers Tryd.func31, Tryd.ntmps31
    go_wp2_with fail
    rw [HW0.out, decide_eq_false (show ¬ a ≤ (t.size : Int) by omega)]
    refine (KN1.out _).mono ?_
    rintro e w1 ⟨rfl, rfl⟩
    go_wp2_with fail
    exact HD.out 1 _ hRe (Oth.refl _ _) _ rfl rfl rfl
  have c2' : a ≤ (t.size : Int) := by omega
  obtain ⟨i, hi⟩ : ∃ i : Nat, a = (i : Int) := ⟨a.toNat, by omega⟩
  subst hi
  have hRv : unquoteV t.data.toList (i : Int) = if t.data.toList.length ≤ i then .error 5 else if at_ t.data.toList i ≠ 34 then .error 6 else unq t.data.toList (i + 1) := by
    unfold unquoteV
    rw [if_neg (by omega)]
    rfl
  have HRV := Lib.hid (HR.out.symm.trans hRv)
  clear hRv HR c1
  have KT := Lib.hid (fun b w hb ha => take_yes t i b (.map none) w hb ht ha)
  have KU := Lib.hid (fun b w hb ha => take_no t i b (.map none) w hb ht ha)
  have KX := Lib.hid (fun b w hb ha hT => text_any t (i + 1) b w hb ht ha hT)
  have hnew : (W0.alloc (rdB t i (.map none))).heap[p + 3]? = some (rdB t i (.map none)) := by rw [← hz0]; exact World.alloc_heap_new W0 _
  have hoA : Oth (p + 3) W0 (W0.alloc (rdB t i (.map none))) := Oth.below ((Below.refl _ W0).alloc (Nat.le_refl _) _)
  have hTA : TabsO (p + 3) (W0.alloc (rdB t i (.map none))) := by
    refine ⟨tabs_low hTz hT (hB0.trans ((Below.refl _ W0).alloc (by omega) _)), ?_, ?_⟩ <;> omega
  go_enter_defers Tryd.func31, Tryd.ntmps31
  go_wp2_with fail
  rw [HW0.out]
  refine (KY1.out _).mono ?_
  rintro e w1 ⟨rfl, rfl⟩
  go_wp2_with fail
  have hoB : ∀ {W}, Oth (p + 3) (w1.alloc (rdB t i (.map none))) W → Oth (p + 3) w1 W := fun h => hoA.trans h
  obtain ⟨W2, hW2⟩ : ∃ W2, w1.alloc (rdB t i (.map none)) = W2 := ⟨_, rfl⟩
  have hW2' : w1.alloc (.cells #[.string t, .int .i64 (i : Int), .map none] RdT) = W2 := hW2
  rw [hW2] at hnew hoA hTA hoB
  rw [hW2']
  clear hW2 hW2'
  by_cases c3 : i < t.size
  · have hRv := HRV.out
    rw [if_neg (by omega)] at hRv
    have KT1 := KT.out (p + 3) W2 hnew c3
    rw [at_get c3] at KT1
    obtain ⟨C, hC⟩ : ∃ C, at_ t.data.toList i = C := ⟨_, rfl⟩
    rw [hC] at KT1 hRv
    refine KT1.mono ?_
    rintro e w3 ⟨rfl, hb3, ho3⟩
    by_cases c4 : C = 34
    · have e4 : ((C : Int) == 34) = true := by simp [c4]
      have hi1 : i + 1 ≤ t.size := c3
      rw [if_neg (by simp [c4])] at hRv
      have HRv := Lib.hid hRv
      clear hRv HRV KT KU c4 hC KT1 c3
      go_wp2_with fail
      refine (KY6.out _).mono ?_
      rintro e w4 ⟨rfl, rfl⟩
      go_wp2_with fail
      refine (KX.out (p + 3) _ hb3 hi1 (hTA.keep ho3)).mono ?_
      rintro e w5 ⟨ho5, ⟨s, j, sh, rfl, hb5, hj, hU⟩ | ⟨m, rfl, hU⟩⟩
      · have hoo := hoB (ho3.trans ho5)
        have x1 : Boxed w5 p 9 _ := (hoo.block p (by omega) (by omega)).trans b1
        have x2 : Boxed w5 (p + 1) 3 _ := (hoo.block (p + 1) (by omega) (by omega)).trans b2
        have x3 : Boxed w5 (p + 1 + 1) 25 _ := (hoo.block (p + 1 + 1) (by omega) (by omega)).trans b3
        have y1 := x1.cell
        have z1 := x1.frozen
        have y4 := (rd_cells hb5).2.1
        have X1 := x1.set (.string ⟨s.toArray⟩)
        have X2 := x2.other (B' := p) (by omega) (.string ⟨s.toArray⟩)
        have X3 := x3.other (B' := p) (by omega) (.string ⟨s.toArray⟩)
        have Y1 := X1.cell
        have Z1 := X1.frozen
        have Y2 := X2.cell
        have Z2 := X2.frozen
        have Y3 := X3.cell
        have Z3 := X3.frozen
        have hbr : (w5.setCell ⟨p, 0, none⟩ (.string ⟨s.toArray⟩)).heap[p + 3]? = some (rdB t j sh) := (Below.heap_setCell w5 ⟨p, 0, none⟩ _ (p + 3) (by show p + 3 ≠ p; omega)).trans hb5
        have Y4 := (rd_cells hbr).2.1
        have A1 := ((X1.set (.string ⟨s.toArray⟩)).other (B' := p + 1) (by omega) (.int .i64 (j : Int))).other (B' := p + 1 + 1) (by omega) (.int .i64 0)
        have A2 := ((X2.other (B' := p) (by omega) (.string ⟨s.toArray⟩)).set (.int .i64 (j : Int))).other (B' := p + 1 + 1) (by omega) (.int .i64 0)
        have A3 := ((X3.other (B' := p) (by omega) (.string ⟨s.toArray⟩)).other (B' := p + 1) (by omega) (.int .i64 (j : Int))).set (.int .i64 0)
        have A4 : Below w.heap.size w ((((w5.setCell ⟨p, 0, none⟩ (.string ⟨s.toArray⟩)).setCell ⟨p, 0, none⟩ (.string ⟨s.toArray⟩)).setCell ⟨p + 1, 0, none⟩ (.int .i64 (j : Int))).setCell ⟨p + 1 + 1, 0, none⟩ (.int .i64 0)) :=
          ((((hB0.trans (hoo.low (by omega) (by omega))).setCell (p := ⟨p, 0, none⟩) (by show w.heap.size ≤ p; omega) _).setCell (p := ⟨p, 0, none⟩) (by show w.heap.size ≤ p; omega) _).setCell (p := ⟨p + 1, 0, none⟩) (by show w.heap.size ≤ p + 1; omega) _).setCell (p := ⟨p + 1 + 1, 0, none⟩) (by show w.heap.size ≤ p + 1 + 1; omega) _
        have HA := Lib.hid (And.intro A1 (And.intro A2 (And.intro A3 A4)))
        clear A1 A2 A3 A4 X1 X2 X3 hb3 ho3 hb5 x2 x3 ho5
        go_wp2_with fail
        obtain ⟨W6, hW6⟩ : ∃ W6, w5.setCell ⟨p, 0, none⟩ (.string ⟨s.toArray⟩) = W6 := ⟨_, rfl⟩
        rw [hW6] at HA Y1 Z1 Y2 Z2 Y3 Z3 Y4 hbr ⊢
        clear hW6 x1 y1 z1 y4
        go_wp2_with (go_region)
        refine HL.out s j _ (HRv.out.trans hU) ?_ ?_ ?_ ?_ _ rfl rfl rfl
        · exact HA.out.1
        · exact HA.out.2.1
        · exact HA.out.2.2.1
        · exact ⟨HA.out.2.2.2.os, HA.out.2.2.2.tape, HA.out.2.2.2.output, HA.out.2.2.2.size, HA.out.2.2.2.block⟩
      · go_wp2_with fail
        exact HD.out m _ (HRv.out.trans hU) (hoB (ho3.trans ho5)) _ rfl rfl rfl
    · have e4 : ((C : Int) == 34) = false := by simp; omega
      rw [if_pos c4] at hRv
      have HRv := Lib.hid hRv
      clear hRv HRV KT KU c4 hC KT1 c3
      go_wp2_with fail
      refine (KN6.out _).mono ?_
      rintro e w4 ⟨rfl, rfl⟩
      go_wp2_with fail
      exact HD.out 6 _ HRv.out (hoB ho3) _ rfl rfl rfl
  · have hRv := HRV.out
    rw [if_pos (by omega)] at hRv
    refine (KU.out (p + 3) W2 hnew (by omega)).mono ?_
    rintro e w3 ⟨rfl, ho3⟩
    have HRv := Lib.hid hRv
    clear hRv HRV KT KU c3
    go_wp2_with fail
    exact HD.out 5 _ HRv.out (hoB ho3) _ rfl rfl rfl
end Go.Proofs.YtndifilhfiooaaaDoor
namespace Go.Proofs.YtndifilhfiooaaaDoor
set_option maxRecDepth 20000
set_option linter.unusedSimpArgs false
set_option linter.unusedVariables false
open Go.RowKit Go.Lib Go.Shelf
attribute [local go_sem] Oper.semAt_some
theorem num_no0 {L : List UInt8} {a : Nat} : numV L a ≠ .error 0 := by
  intro h
  unfold numV at h
  split at h
  · rename_i m hm
    cases h
    exact four_no0 _ _ _ _ hm
  split at h
  · cases h
  split at h
  · cases h
  split at h
  · cases h
  split at h
  · cases h
  split at h
  · cases h
  split at h
  · cases h
  split at h
  · rename_i m hm
    cases h
    exact four_no0 _ _ _ _ hm
  split at h <;> cases h
theorem esc_no0 {L : List UInt8} {a : Nat} : escV L a ≠ .error 0 := by
  intro h
  unfold escV at h
  split at h
  · cases h
  split at h
  · exact num_no0 h
  split at h <;> cases h
end Go.Proofs.YtndifilhfiooaaaDoor
