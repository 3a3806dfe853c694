/- Code points and bytes stand in one order (layer 3). No program in it. -/
import Derived.Test.YtcadklhjhjbhaaaDoorUtfJ
import Derived.Test.YtcadklhjhjbhaaaDoorUtfG
namespace Go.Proofs.YtcadklhjhjbhaaaDoor
set_option maxRecDepth 20000
set_option linter.unusedSimpArgs false
set_option linter.unusedVariables false
open Go.RowKit Go.Lib
/-- How two lists of numbers stand to each other. -/
def cmpN : List Nat → List Nat → Int
  | [], [] => 0
  | [], _ :: _ => -1
  | _ :: _, [] => 1
  | a :: u, b :: v => if a < b then -1 else if b < a then 1 else cmpN u v
theorem cmp_toNat : ∀ a b : List UInt8, Lib.compareBytes a b = cmpN (a.map UInt8.toNat) (b.map UInt8.toNat)
  | [], [] => by simp [Lib.compareBytes, cmpN]
  | [], _ :: _ => by simp [Lib.compareBytes, cmpN]
  | _ :: _, [] => by simp [Lib.compareBytes, cmpN]
  | x :: a, y :: b => by
    rw [Lib.compareBytes, List.map_cons, List.map_cons, cmpN, cmp_toNat a b]
    rfl
theorem cmpN_same (p : List Nat) (a b : List Nat) : cmpN (p ++ a) (p ++ b) = cmpN a b := by
  induction p with
  | nil => rfl
  | cons x p ih => rw [List.cons_append, List.cons_append, cmpN, if_neg (Nat.lt_irrefl _), if_neg (Nat.lt_irrefl _), ih]
theorem cmpN_anti : ∀ a b : List Nat, cmpN b a = - cmpN a b
  | [], [] => rfl
  | [], _ :: _ => rfl
  | _ :: _, [] => rfl
  | x :: a, y :: b => by
    have e1 : cmpN (x :: a) (y :: b) = if x < y then -1 else if y < x then 1 else cmpN a b := by rw [cmpN]
    have e2 : cmpN (y :: b) (x :: a) = if y < x then -1 else if x < y then 1 else cmpN b a := by rw [cmpN]
    rw [e1, e2, cmpN_anti a b]
    rcases Nat.lt_trichotomy x y with h | h | h
    · rw [if_neg (by omega), if_pos h, if_pos h]; rfl
    · rw [if_neg (by omega), if_neg (by omega), if_neg (by omega), if_neg (by omega)]
    · rw [if_pos h, if_neg (by omega), if_pos h]
def nats (n : Nat) : List Nat := (form n).map UInt8.toNat
set_option maxHeartbeats 2000000 in
theorem nats_lt {x y : Nat} (hx : isCp x) (hy : isCp y) (h : x < y) (A B : List Nat) : cmpN (nats x ++ A) (nats y ++ B) = -1 := by
  unfold nats
  rcases form_cases hx with ⟨c1, e⟩ | ⟨c1, c2, e⟩ | ⟨c1, c2, c3, e⟩ | ⟨c1, c2, e⟩ <;>
  rcases form_cases hy with ⟨d1, f⟩ | ⟨d1, d2, f⟩ | ⟨d1, d2, d3, f⟩ | ⟨d1, d2, f⟩ <;>
  first
    | (exfalso; omega)
    | (rw [e, f]
       clear e f hx hy
       simp only [List.cons_append, List.nil_append, cmpN]
       repeat' (first | rfl | (exfalso; omega) | split))
/-- The bytes of some code points. -/
def bytesN (l : List Nat) : List Nat := (l.map nats).flatten
theorem nats_ne {n : Nat} (h : isCp n) : ∃ b t, nats n = b :: t := by
  have := form_len_pos h
  unfold nats
  cases hf : form n with
  | nil => rw [hf] at this; simp at this
  | cons b t => exact ⟨_, _, rfl⟩
theorem cmp_bytes : ∀ (xs ys : List Nat), (∀ x ∈ xs, isCp x) → (∀ y ∈ ys, isCp y) → cmpN (bytesN xs) (bytesN ys) = cmpN xs ys
  | [], [], _, _ => rfl
  | [], y :: ys, _, hy => by
    obtain ⟨b, t, e⟩ := nats_ne (hy y (by simp))
    unfold bytesN
    rw [List.map_cons, List.flatten_cons, e]
    rfl
  | x :: xs, [], hx, _ => by
    obtain ⟨b, t, e⟩ := nats_ne (hx x (by simp))
    unfold bytesN
    rw [List.map_cons, List.flatten_cons, e]
    rfl
  | x :: xs, y :: ys, hx, hy => by
    have h1 := hx x (by simp)
    have h2 := hy y (by simp)
    have ih := cmp_bytes xs ys (fun z hz => hx z (List.mem_cons_of_mem _ hz)) (fun z hz => hy z (List.mem_cons_of_mem _ hz))
    have ex : bytesN (x :: xs) = nats x ++ bytesN xs := by unfold bytesN; rw [List.map_cons, List.flatten_cons]
    have ey : bytesN (y :: ys) = nats y ++ bytesN ys := by unfold bytesN; rw [List.map_cons, List.flatten_cons]
    rw [ex, ey, cmpN]
    rcases Nat.lt_trichotomy x y with h | h | h
    · rw [nats_lt h1 h2 h, if_pos h]
    · subst h
      rw [cmpN_same, if_neg (Nat.lt_irrefl _), if_neg (Nat.lt_irrefl _), ih]
    · rw [cmpN_anti, nats_lt h2 h1 h, if_neg (by omega), if_pos h]; rfl
/-- The code points of some bytes. -/
def cpN (l : List UInt8) : List Nat := (cpsAt l 0).map Prod.snd
theorem cps_walk : ∀ (d : Nat) (l : List UInt8) (a : Nat), l.length - a = d → l.length ≤ 100000 → ∀ pre, Read l pre a →
    ∃ e : Nat, e ≤ l.length ∧ endZ (cpsAt l 0) = (e : Int) ∧ (l.drop a).map UInt8.toNat = bytesN ((cpsAt l a).map Prod.snd) ++ (l.drop e).map UInt8.toNat ∧ ∀ x ∈ (cpsAt l a).map Prod.snd, isCp x := by
  intro d
  induction d using Nat.strongRecOn with
  | ind d ih =>
    intro l a hd hL pre hR
    cases hx : nx (l.drop a) with
    | none =>
      refine ⟨a, hR.le, (hR.last hx).2, ?_, ?_⟩
      · rw [cpsAt_none hx]; rfl
      · rw [cpsAt_none hx]; intro x h; cases h
    | some q =>
      obtain ⟨n, k⟩ := q
      have h1 := nx_lt hx
      obtain ⟨h2, h3, _⟩ := nx_form hx
      obtain ⟨e, he, hz, heq, hall⟩ := ih (l.length - (a + k)) (by omega) l (a + k) rfl hL _ (hR.step hL hx)
      refine ⟨e, he, hz, ?_, ?_⟩
      · rw [cpsAt_some hx, List.map_cons]
        have ex : bytesN (n :: (cpsAt l (a + k)).map Prod.snd) = nats n ++ bytesN ((cpsAt l (a + k)).map Prod.snd) := by unfold bytesN; rw [List.map_cons, List.flatten_cons]
        show _ = bytesN (n :: (cpsAt l (a + k)).map Prod.snd) ++ _
        rw [ex, List.append_assoc, ← heq]
        unfold nats
        rw [h3, ← List.map_append, ← List.drop_drop, List.take_append_drop]
      · rw [cpsAt_some hx, List.map_cons]
        intro x hm
        rcases List.mem_cons.1 hm with rfl | hm
        · exact h2
        · exact hall x hm
theorem valid_bytes {l : List UInt8} (hL : l.length ≤ 100000) (hv : validB l = true) : l.map UInt8.toNat = bytesN (cpN l) ∧ ∀ x ∈ cpN l, isCp x := by
  obtain ⟨e, he, hz, heq, hall⟩ := cps_walk _ l 0 rfl hL [] (Read.zero l)
  refine ⟨?_, hall⟩
  unfold validB at hv
  have h2 : endZ (cpsAt l 0) = (l.length : Int) := by simpa using hv
  have h3 : e = l.length := by omega
  rw [h3, List.drop_length, List.map_nil, List.append_nil] at heq
  exact heq
/-- Of valid texts, the order of the bytes is that of the code points. -/
theorem cmp_valid {a b : List UInt8} (ha : a.length ≤ 100000) (hb : b.length ≤ 100000) (va : validB a = true) (vb : validB b = true) : Lib.compareBytes a b = cmpN (cpN a) (cpN b) := by
  obtain ⟨h1, h2⟩ := valid_bytes ha va
  obtain ⟨h3, h4⟩ := valid_bytes hb vb
  rw [cmp_toNat, h1, h3, cmp_bytes _ _ h2 h4]
end Go.Proofs.YtcadklhjhjbhaaaDoor
