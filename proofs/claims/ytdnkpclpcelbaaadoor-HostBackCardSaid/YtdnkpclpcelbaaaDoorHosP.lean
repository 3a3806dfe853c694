/- host (layer 27): a bracketed name, by its sides and by its parts (no walk in it). -/
import Derived.Test.YtdnkpclpcelbaaaDoorHosH
namespace Go.Proofs.YtdnkpclpcelbaaaDoor
set_option maxRecDepth 20000
set_option linter.unusedSimpArgs false
set_option linter.unusedVariables false
open Go.RowKit Go.Lib
/-- How often two colons stand side by side. -/
def dbl : List UInt8 → Nat
  | a :: b :: r => (if a = 58 ∧ b = 58 then 1 else 0) + dbl (b :: r)
  | _ => 0
theorem dbl_two (a b : UInt8) (r : List UInt8) : dbl (a :: b :: r) = (if a = 58 ∧ b = 58 then 1 else 0) + dbl (b :: r) := by rw [dbl]
theorem dbl_one (a : UInt8) : dbl [a] = 0 := by simp [dbl]
theorem dbl_app (x : UInt8) (r : List UInt8) : ∀ A : List UInt8, dbl (A ++ x :: r) = dbl (A ++ [x]) + dbl (x :: r)
  | [] => by simp [dbl_one]
  | [a] => by
    show dbl (a :: x :: r) = dbl [a, x] + _
    rw [dbl_two, dbl_two, dbl_one]
    omega
  | a :: b :: A => by
    have h := dbl_app x r (b :: A)
    show dbl (a :: b :: (A ++ x :: r)) = dbl (a :: b :: (A ++ [x])) + _
    rw [dbl_two, dbl_two]
    have h2 : dbl (b :: (A ++ x :: r)) = dbl (b :: (A ++ [x])) + dbl (x :: r) := h
    omega
theorem idx_two : ∀ l : List UInt8, (Lib.index l [58, 58] = -1 ∧ dbl l = 0) ∨ ∃ A B : List UInt8, Lib.index l [58, 58] = (A.length : Int) ∧ l = A ++ 58 :: 58 :: B ∧ dbl (A ++ [58]) = 0
  | [] => .inl ⟨rfl, rfl⟩
  | [x] => .inl ⟨by simp [Lib.index, List.isPrefixOf], dbl_one x⟩
  | x :: y :: r => by
    by_cases h : x = 58 ∧ y = 58
    · obtain ⟨rfl, rfl⟩ := h
      exact .inr ⟨[], r, by simp [Lib.index, List.isPrefixOf], rfl, dbl_one _⟩
    · have hp : ([58, 58] : List UInt8).isPrefixOf (x :: y :: r) = false := by
        simp only [List.isPrefixOf, Bool.and_true]
        rcases Decidable.not_and_iff_or_not.1 h with h1 | h1
        · rw [show ((58 : UInt8) == x) = false by simpa using fun e => h1 e.symm]; rfl
        · rw [show ((58 : UInt8) == y) = false by simpa using fun e => h1 e.symm, Bool.and_false]
      have hi : Lib.index (x :: y :: r) [58, 58] = if Lib.index (y :: r) [58, 58] == -1 then -1 else Lib.index (y :: r) [58, 58] + 1 := by
        rw [Lib.index, if_neg (by rw [hp]; simp)]
      rcases idx_two (y :: r) with ⟨h1, h2⟩ | ⟨A, B, h1, h2, h3⟩
      · refine .inl ⟨by rw [hi, h1]; rfl, ?_⟩
        rw [dbl_two, if_neg h, h2]
      · refine .inr ⟨x :: A, B, ?_, by rw [h2]; rfl, ?_⟩
        · rw [hi, h1, if_neg (by simp)]
          simp
        · cases A with
          | nil =>
            have hy : y = 58 := by simpa using (List.cons.inj h2).1
            show dbl [x, 58] = 0
            rw [dbl_two, dbl_one, if_neg (fun e => h ⟨e.1, hy⟩)]
          | cons a A =>
            have hy : y = a := by simpa using (List.cons.inj h2).1
            show dbl (x :: a :: (A ++ [58])) = 0
            rw [dbl_two, ← hy, if_neg h]
            have h4 : dbl (a :: (A ++ [58])) = 0 := h3
            rw [hy, h4]
def fineG (g : List UInt8) : Bool := g.isEmpty || (decide (g.length ≤ 4) && g.all fun c => hex c.toNat)
def goodG (g : List UInt8) : Bool := !g.isEmpty && fineG g
def emp (X : List (List UInt8)) : Nat := (X.filter List.isEmpty).length
def ful (X : List (List UInt8)) : Nat := (X.filter fun g => !g.isEmpty).length
theorem emp_app (X Y : List (List UInt8)) : emp (X ++ Y) = emp X + emp Y := by simp [emp]
theorem ful_app (X Y : List (List UInt8)) : ful (X ++ Y) = ful X + ful Y := by simp [ful]
theorem emp_ful : ∀ X : List (List UInt8), emp X + ful X = X.length
  | [] => rfl
  | g :: X => by
    have := emp_ful X
    unfold emp ful at *
    cases h : g.isEmpty <;> simp [h] <;> omega
theorem all_good : ∀ X : List (List UInt8), X.all goodG = (X.all fineG && decide (emp X = 0))
  | [] => rfl
  | g :: X => by
    have h := all_good X
    rw [List.all_cons, List.all_cons, h]
    unfold emp
    cases h1 : g.isEmpty with
    | true => simp [goodG, h1]
    | false => simp [goodG, h1, Bool.and_assoc]
def grp (P : List UInt8) : List (List UInt8) := if P.isEmpty then [] else prt 58 [] P
/-- What the program asks of what stands between the brackets. -/
def brB (t : List UInt8) : Bool :=
  decide ((Lib.split t [58, 58]).length ≤ 2) && (((Lib.split t [58, 58]).flatMap grp).all goodG && ((decide (((Lib.split t [58, 58]).flatMap grp).length = 8) && decide ((Lib.split t [58, 58]).length = 1)) || (decide (((Lib.split t [58, 58]).flatMap grp).length ≤ 7) && decide ((Lib.split t [58, 58]).length = 2))))
def wantN (t : List UInt8) : Nat := 1 + (if t.take 2 = [58, 58] then 1 else 0) + (if t.drop (t.length - 2) = [58, 58] then 1 else 0)
/-- What the reference asks. -/
def brR (t : List UInt8) : Bool :=
  (prt 58 [] t).all fineG && (if dbl t = 0 then decide (ful (prt 58 [] t) = 8) && decide (emp (prt 58 [] t) = 0) else decide (dbl t = 1) && (decide (emp (prt 58 [] t) = wantN t) && decide (ful (prt 58 [] t) ≤ 7)))
theorem split_two {A B : List UInt8} (h : Lib.index (A ++ 58 :: 58 :: B) [58, 58] = (A.length : Int)) : Lib.split (A ++ 58 :: 58 :: B) [58, 58] = A :: Lib.split B [58, 58] := by
  rw [split_hit (by simp) h]
  simp
theorem split_none {t : List UInt8} (h : dbl t = 0) : Lib.split t [58, 58] = [t] := by
  rcases idx_two t with ⟨h1, -⟩ | ⟨A, B, -, h2, -⟩
  · exact split_miss h1
  · rw [h2, dbl_app, dbl_two, if_pos ⟨rfl, rfl⟩] at h
    omega
theorem split_some {t : List UInt8} (h : dbl t ≠ 0) : 2 ≤ (Lib.split t [58, 58]).length := by
  rcases idx_two t with ⟨-, h2⟩ | ⟨A, B, h1, h2, -⟩
  · exact absurd h2 h
  · subst h2
    rw [split_two h1, List.length_cons]
    have : 0 < (Lib.split B [58, 58]).length := by
      by_cases hb : dbl B = 0
      · rw [split_none hb]; simp
      · rcases idx_two B with ⟨-, h3⟩ | ⟨C, D, h3, h4, -⟩
        · exact absurd h3 hb
        · rw [h4] at h3 ⊢
          rw [split_two h3]; simp
    omega
theorem br_eq (t : List UInt8) (ht : 2 ≤ t.length) : brB t = brR t := by
  have hne : t.isEmpty = false := by cases t with | nil => simp at ht | cons => rfl
  by_cases h0 : dbl t = 0
  · unfold brB brR
    rw [split_none h0, if_pos h0]
    simp only [List.flatMap_cons, List.flatMap_nil, List.append_nil, List.length_cons, List.length_nil, grp, hne]
    rw [if_neg (by simp), all_good]
    have h1 := emp_ful (prt 58 [] t)
    by_cases h2 : emp (prt 58 [] t) = 0
    · rw [h2, Nat.zero_add] at h1
      rw [h2, h1]
      simp
    · simp [h2]
  · rcases idx_two t with ⟨-, h2⟩ | ⟨A, B, h1, h2, h3⟩
    · exact absurd h2 h0
    · have hL : prt 58 [] t = prt 58 [] A ++ [] :: prt 58 [] B := by
        rw [h2, prt_app, prt_cons, if_pos rfl]
      have hd : dbl t = 1 + dbl (58 :: B) := by
        rw [h2, dbl_app, h3, dbl_two, if_pos ⟨rfl, rfl⟩]
        omega
      have hS : Lib.split t [58, 58] = A :: Lib.split B [58, 58] := by rw [h2] at h1 ⊢; exact split_two h1
      by_cases hB : dbl (58 :: B) = 0
      · have hB0 : dbl B = 0 := by
          cases B with
          | nil => rfl
          | cons b r => rw [dbl_two] at hB; omega
        have hBh : ∀ b r, B = b :: r → b ≠ 58 := fun b r e e2 => by
          rw [e, dbl_two, if_pos ⟨rfl, e2⟩] at hB
          omega
        have w1 : t.take 2 = [58, 58] ↔ A = [] := by
          rw [h2]
          constructor
          · intro h
            match A, h3, h with
            | [], _, _ => rfl
            | [a], h3, h =>
              have : a = 58 := by simpa using h
              subst this
              exact absurd h3 (by decide)
            | a :: b :: A', h3, h =>
              obtain ⟨rfl, rfl⟩ : a = 58 ∧ b = 58 := by simpa using h
              rw [show (58 :: 58 :: A' ++ [58] : List UInt8) = 58 :: 58 :: (A' ++ [58]) from rfl, dbl_two, if_pos ⟨rfl, rfl⟩] at h3
              omega
          · rintro rfl; rfl
        have w2 : t.drop (t.length - 2) = [58, 58] ↔ B = [] := by
          rw [h2]
          constructor
          · intro h
            match B, hB, hB0, h with
            | [], _, _, _ => rfl
            | [b], hB, _, h =>
              have : (A ++ [58, 58, b]).drop ((A ++ [58, 58, b]).length - 2) = [58, b] := by
                rw [show (A ++ [58, 58, b]).length - 2 = A.length + 1 by simp, List.drop_append]
                simp
              rw [this] at h
              have hb : b = 58 := by simpa using h
              rw [hb] at hB
              exact absurd hB (by decide)
            | b :: c :: r, hB, hB0, h =>
              obtain ⟨C, hC⟩ : ∃ C, b :: c :: r = C ++ [58, 58] := by
                refine ⟨(b :: c :: r).take ((b :: c :: r).length - 2), ?_⟩
                have e : (A ++ 58 :: 58 :: b :: c :: r).drop ((A ++ 58 :: 58 :: b :: c :: r).length - 2) = (b :: c :: r).drop ((b :: c :: r).length - 2) := by
                  rw [show (A ++ 58 :: 58 :: b :: c :: r).length - 2 = (A ++ [58, 58]).length + ((b :: c :: r).length - 2) by simp; omega, show A ++ 58 :: 58 :: b :: c :: r = (A ++ [58, 58]) ++ (b :: c :: r) by simp, List.drop_append]
                  simp
                rw [e] at h
                rw [← h, List.take_append_drop]
              rw [hC, show C ++ [58, 58] = C ++ 58 :: [58] from rfl, dbl_app] at hB0
              have : dbl [58, 58] = 1 := by decide
              omega
          · rintro rfl
            have e : (A ++ [58, 58]).length - 2 = A.length := by simp
            rw [e, List.drop_append]
            simp
        have hwant : wantN t = 1 + (if A = [] then 1 else 0) + (if B = [] then 1 else 0) := by
          unfold wantN
          simp only [w1, w2]
        unfold brB brR
        rw [hS, split_none hB0, if_neg h0, hwant, hL, hd, hB]
        simp only [List.flatMap_cons, List.flatMap_nil, List.append_nil, List.length_cons, List.length_nil, List.all_append, List.all_cons, List.length_append, all_good, emp_app, ful_app]
        have e1 : emp ([] :: prt 58 [] B) = 1 + emp (prt 58 [] B) := by simp [emp]; omega
        have e2 : ful ([] :: prt 58 [] B) = ful (prt 58 [] B) := by simp [ful]
        have f1 : fineG [] = true := rfl
        rw [e1, e2, f1]
        have sA := emp_ful (prt 58 [] A)
        have sB := emp_ful (prt 58 [] B)
        have nA : prt 58 [] [] = [[]] := prt_nil _ _
        have nE : emp [[]] = 1 := rfl
        have nF : ful [[]] = 0 := rfl
        have nG : ([[]] : List (List UInt8)).all fineG = true := rfl
        have gE : grp [] = [] := rfl
        have gN : ∀ P : List UInt8, P ≠ [] → grp P = prt 58 [] P := fun P hP => by
          unfold grp
          cases P with
          | nil => exact absurd rfl hP
          | cons => rfl
        by_cases cA : A = [] <;> by_cases cB : B = []
        · subst cA cB
          rw [gE, nA, nE, nF, nG]
          rfl
        · subst cA
          rw [gE, gN B cB, nA, nE, nF, nG, if_pos rfl, if_neg cB]
          generalize (prt 58 [] B).all fineG = b at *
          generalize emp (prt 58 [] B) = eB at *
          generalize ful (prt 58 [] B) = fB at *
          generalize (prt 58 [] B).length = nB at *
          clear hwant w1 w2 hS hL h2 h1 h3 hd hBh hB hB0 hne ht h0
          have n0 : emp [] = 0 := rfl
          rw [n0]
          by_cases hE : eB = 0
          · subst hE
            rw [Nat.zero_add] at sB
            subst sB
            cases b <;> simp
          · have k1 : ¬ 1 + (1 + eB) = 1 + 1 + 0 := by omega
            rw [decide_eq_false k1, decide_eq_false hE]
            cases b <;> simp
        · subst cB
          rw [gE, gN A cA, nA, nE, nF, nG, if_pos rfl, if_neg cA]
          generalize (prt 58 [] A).all fineG = b at *
          generalize emp (prt 58 [] A) = eA at *
          generalize ful (prt 58 [] A) = fA at *
          generalize (prt 58 [] A).length = mA at *
          clear hwant w1 w2 hS hL h2 h1 h3 hd hBh hB hB0 hne ht h0
          have n0 : emp [] = 0 := rfl
          rw [n0]
          by_cases hE : eA = 0
          · subst hE
            rw [Nat.zero_add] at sA
            subst sA
            cases b <;> simp
          · have k1 : ¬ eA + (1 + 1) = 1 + 0 + 1 := by omega
            rw [decide_eq_false k1, decide_eq_false hE]
            cases b <;> simp
        · rw [gN A cA, gN B cB, if_neg cA, if_neg cB]
          generalize (prt 58 [] A).all fineG = b at *
          generalize emp (prt 58 [] A) = eA at *
          generalize ful (prt 58 [] A) = fA at *
          generalize (prt 58 [] A).length = mA at *
          generalize (prt 58 [] B).all fineG = b2 at *
          generalize emp (prt 58 [] B) = eB at *
          generalize ful (prt 58 [] B) = fB at *
          generalize (prt 58 [] B).length = mB at *
          clear hwant w1 w2 hS hL h2 h1 h3 hd hBh hB hB0 hne ht h0
          by_cases hE : eA = 0
          · by_cases hF : eB = 0
            · subst hE hF
              rw [Nat.zero_add] at sA sB
              subst sA sB
              cases b <;> cases b2 <;> simp
            · have k1 : ¬ eA + (1 + eB) = 1 + 0 + 0 := by omega
              rw [decide_eq_false k1, decide_eq_false hF]
              cases b <;> cases b2 <;> simp
          · have k1 : ¬ eA + (1 + eB) = 1 + 0 + 0 := by omega
            rw [decide_eq_false k1, decide_eq_false hE]
            cases b <;> cases b2 <;> simp
      · have hR : brR t = false := by
          unfold brR
          rw [if_neg h0, hd, decide_eq_false (show ¬ 1 + dbl (58 :: B) = 1 by omega)]
          simp
        rw [hR]
        unfold brB
        rw [hS]
        by_cases hb : dbl B = 0
        · cases B with
          | nil => exact absurd (dbl_one 58) hB
          | cons b r =>
            rw [dbl_two, hb] at hB
            have hb58 : b = 58 := by
              by_cases e : b = 58
              · exact e
              · rw [if_neg (fun h => e h.2)] at hB
                exact absurd rfl hB
            subst hb58
            rw [split_none hb]
            have hg : grp (58 :: r) = [] :: prt 58 [] r := by
              unfold grp
              rw [if_neg (by simp), prt_cons, if_pos rfl]
            simp only [List.flatMap_cons, List.flatMap_nil, List.append_nil, List.all_append, hg, List.all_cons]
            rw [show goodG [] = false from rfl]
            simp
        · have := split_some hb
          rw [decide_eq_false (show ¬ (A :: Lib.split B [58, 58]).length ≤ 2 by rw [List.length_cons]; omega)]
          rfl
end Go.Proofs.YtdnkpclpcelbaaaDoor
