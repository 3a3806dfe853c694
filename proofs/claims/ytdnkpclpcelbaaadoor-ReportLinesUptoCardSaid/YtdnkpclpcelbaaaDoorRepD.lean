/- the reference's Lines (layer 49); the lines of a text. -/
import Derived.Test.YtdnkpclpcelbaaaDoorRepC
import Derived.Test.YtdnkpclpcelbaaaDoorHosG
import Derived.Lib.CutLaws
namespace Go.Proofs.YtdnkpclpcelbaaaDoor
set_option maxRecDepth 20000
set_option linter.unusedSimpArgs false
set_option linter.unusedVariables false
open Go.RowKit Go.Lib
attribute [local go_sem] Oper.semAt_some
/-- The lines of a text, the first of them begun with `acc`. -/
def lns : List UInt8 → List UInt8 → List (List UInt8)
  | acc, [] => if acc = [] then [] else [acc]
  | acc, c :: r => if c = 10 then acc :: lns [] r else lns (acc ++ [c]) r
theorem lns_nil (acc : List UInt8) : lns acc [] = if acc = [] then [] else [acc] := by rw [lns]
theorem lns_cons (acc : List UInt8) (c : UInt8) (r : List UInt8) : lns acc (c :: r) = if c = 10 then acc :: lns [] r else lns (acc ++ [c]) r := by rw [lns]
theorem lns_len : ∀ (l acc : List UInt8), (lns acc l).length ≤ l.length + 1
  | [], acc => by rw [lns_nil]; split <;> simp
  | c :: r, acc => by
    rw [lns_cons]
    split
    · have := lns_len r []; simp; omega
    · have := lns_len r (acc ++ [c]); simp; omega
theorem lns_none : ∀ (l acc : List UInt8), (∀ c ∈ l, c ≠ 10) → lns acc l = if acc ++ l = [] then [] else [acc ++ l]
  | [], acc, _ => by rw [lns_nil]; simp
  | c :: r, acc, h => by
    rw [lns_cons, if_neg (h c (by simp)), lns_none r _ fun x hx => h x (by simp [hx])]
    simp
theorem lns_hit : ∀ (a acc r : List UInt8), (∀ c ∈ a, c ≠ 10) → lns acc (a ++ 10 :: r) = (acc ++ a) :: lns [] r
  | [], acc, r, _ => by
    show lns acc (10 :: r) = _
    rw [lns_cons, if_pos rfl]
    simp
  | c :: a, acc, r, h => by
    show lns acc (c :: (a ++ 10 :: r)) = _
    rw [lns_cons, if_neg (h c (by simp)), lns_hit a _ r fun x hx => h x (by simp [hx])]
    simp
theorem lns_at {l : List UInt8} {f k : Nat} (hf : f ≤ k) (hk : k < l.length) (hc : l[k]? = some 10) : lns ((l.drop f).take (k - f)) (l.drop k) = (l.drop f).take (k - f) :: lns ((l.drop (k + 1)).take (k + 1 - (k + 1))) (l.drop (k + 1)) := by
  rw [List.drop_eq_getElem_cons hk]
  have : l[k] = 10 := by rw [List.getElem?_eq_getElem hk] at hc; exact Option.some.inj hc
  rw [this, lns_cons, if_pos rfl]
  simp
theorem lns_go {l : List UInt8} {f k : Nat} (hf : f ≤ k) (hk : k < l.length) (hc : l[k]? ≠ some 10) : lns ((l.drop f).take (k - f)) (l.drop k) = lns ((l.drop f).take (k + 1 - f)) (l.drop (k + 1)) := by
  rw [List.drop_eq_getElem_cons (i := k) hk, lns_cons, if_neg (by rw [List.getElem?_eq_getElem hk] at hc; exact fun e => hc (by rw [e]))]
  congr 1
  rw [show k + 1 - f = (k - f) + 1 by omega, List.take_add_one, List.getElem?_drop, show f + (k - f) = k by omega, List.getElem?_eq_getElem hk]
  rfl
theorem lns_end {l : List UInt8} {f k : Nat} (hk : k = l.length) : lns ((l.drop f).take (k - f)) (l.drop k) = if f < l.length then [l.drop f] else [] := by
  subst hk
  rw [List.drop_eq_nil_of_le (Nat.le_refl _), lns_nil, List.take_of_length_le (by simp)]
  by_cases h : f < l.length
  · rw [if_pos h, if_neg (by intro e; have := congrArg List.length e; simp at this; omega)]
  · rw [if_neg h, if_pos (List.drop_eq_nil_of_le (by omega))]
abbrev bsL (L : List (List UInt8)) : List ByteArray := L.map fun P => ⟨P.toArray⟩
set_option maxHeartbeats 8000000 in
theorem rlines_any (s : ByteArray) (w : World) (hs : s.size ≤ 1000) :
    Calls Tryd.prog 28 #[.string s] w fun e w' => ∃ v, e = .returned v ∧ w'.ownsRow w.heap.size StT 1 v (bsL (lns [] s.data.toList)).length (stV (bsL (lns [] s.data.toList))) ∧ Below w.heap.size w w' := by
  obtain ⟨l, hl⟩ : ∃ l, s.data.toList = l := ⟨_, rfl⟩
  have hsz : s.size = l.length := by rw [← hl]; exact Lib.size_eq s
  have hex : ∀ a b, s.extract a b = ⟨((l.drop a).take (b - a)).toArray⟩ := fun a b => by rw [Lib.extract_eq, hl]
  have hgb : ∀ k, k < s.size → (l[k]? = some 10 ↔ gb s k = 10) := fun k hk => by
    have h1 : k < l.length := by omega
    rw [List.getElem?_eq_getElem h1]
    unfold gb
    rw [hl, List.getD_eq_getElem?_getD, List.getElem?_eq_getElem h1]
    constructor
    · intro e
      have := Option.some.inj e
      simp [this]
    · intro e
      congr 1
      apply UInt8.toNat_inj.1
      simpa using e
  rw [hl]
  obtain ⟨LL, hLL⟩ : ∃ LL, bsL (lns [] l) = LL := ⟨_, rfl⟩
  have hX0 : lns [] l = [] ++ lns ((l.drop 0).take (0 - 0)) (l.drop 0) := by simp
  rw [hLL]
  go_enter Tryd.func28, Tryd.ntmps28
  go_wp2_with fail
  go_loopw [3, 4, 5] (fun v f p wr => ∃ (pre : List (List UInt8)) (a k : Nat), f = .int .i64 (a : Int) ∧ p = .int .i64 (k : Int) ∧ a ≤ k ∧ k ≤ s.size ∧ lns [] l = pre ++ lns ((l.drop a).take (k - a)) (l.drop k) ∧ wr.ownsRow w.heap.size StT 1 v (bsL pre).length (stV (bsL pre)) ∧ Below w.heap.size w wr)
    (fun _ _ p _ => s.size - (Go.RowKit.intOf p).toNat)
  case atStart => exact ⟨[], 0, 0, rfl, rfl, Nat.le_refl _, Nat.zero_le _, hX0, World.ownsRow_nil _ _ _ _, Below.refl _ _⟩
  case round =>
    obtain ⟨pre, a, k, rfl, rfl, hak, hk, hx, hown, hbw⟩ := hrel
    obtain ⟨v, hv⟩ : ∃ v, u3 = v := ⟨_, rfl⟩
    rw [hv] at hown ⊢
    clear hv hX0
    have hlen : (bsL pre).length ≤ 100000 := by
      have := lns_len l []
      rw [hx, List.length_append] at this
      rw [List.length_map]
      omega
    by_cases hlt : k < s.size
    · have p1 : (k : Int) < (s.size : Int) := by omega
      have natk : (k : Int).toNat = k := by omega
      have hgk := hgb k hlt
      obtain ⟨d, hd⟩ : ∃ d, gb s k = d := ⟨_, rfl⟩
      have gk := (gb_at s k hlt).trans hd
      have w1 : IntKind.i64.wrap ((k : Int) + 1) = (k : Int) + 1 := IntWalk.i64_in _ (by omega)
      by_cases hdc : d = 10
      · have HX := Lib.hid (show lns [] l = (pre ++ [(l.drop a).take (k - a)]) ++ lns ((l.drop (k + 1)).take (k + 1 - (k + 1))) (l.drop (k + 1)) by rw [hx, lns_at hak (by omega) (hgk.2 (hd.trans hdc))]; simp)
        obtain ⟨v', W2, hrun, ho, hb2⟩ := app_str (s.extract a k) hown hbw hlen
        have ho2 : W2.ownsRow w.heap.size StT 1 v' (bsL (pre ++ [(l.drop a).take (k - a)])).length (stV (bsL (pre ++ [(l.drop a).take (k - a)]))) := by
          rw [hex] at ho
          rw [show bsL (pre ++ [(l.drop a).take (k - a)]) = bsL pre ++ [⟨((l.drop a).take (k - a)).toArray⟩] by simp [bsL]]
          exact ho
        have HO := Lib.hid ho2
        have HB := Lib.hid hb2
        have HRUN := Lib.hid hrun
        subst hdc
        clear hx hown hbw ho ho2 hb2 hrun hex hgb hgk hsz
        go_upto_region 7 with fail
        refine wp_region_lit ?_
        refine wl_pure (v := v) (fun W => rfl) rfl ?_
        simp only [nm0, nm1, nm2, nm3]
        refine wl_pure (v := .string s) (fun W => rfl) rfl ?_
        simp only [nm0, nm1, nm2, nm3]
        refine wl_pure (v := .int .i64 (a : Int)) (fun W => rfl) rfl ?_
        simp only [nm0, nm1, nm2, nm3]
        refine wl_pure (v := .int .i64 (k : Int)) (fun W => rfl) rfl ?_
        simp only [nm0, nm1, nm2, nm3]
        refine wl_pure (v := .string (s.extract a k)) (fun W => by refine run_slc_str W rfl rfl ?_; exact slc_str W Tryd.underlying9 hak hk) rfl ?_
        simp only [nm0, nm1, nm2, nm3]
        refine lw_valW (v := .slice (some ⟨wr.heap.size, 0, none⟩) 1 1) (run_slice_of (ps := #[(0, .string (s.extract a k))]) rfl (by simp [Act.eval]) (bs_Str _ wr)) rfl ?_
        simp only [nm0, nm1, nm2, nm3]
        refine lw_valW (v := v') (run_app_of rfl rfl rfl HRUN.out) rfl ?_
        simp only [nm0, nm1, nm2, nm3]
        refine wl_pure (v := v') (fun W => rfl) rfl ?_
        simp only [nm0, nm1, nm2, nm3]
        refine wpList_nil ?_
        go_wp2_with fail
        go_roundw
        case rel => exact ⟨pre ++ [(l.drop a).take (k - a)], k + 1, k + 1, congrArg (Value.int .i64) (by omega), congrArg (Value.int .i64) (by omega), Nat.le_refl _, hlt, HX.out, HO.out, HB.out⟩
        case measure => simp [Go.RowKit.intOf]; omega
      · have HX := Lib.hid (show lns [] l = pre ++ lns ((l.drop a).take (k + 1 - a)) (l.drop (k + 1)) by rw [hx, lns_go hak (by omega) (fun e => hdc (hd.symm.trans (hgk.1 e)))])
        have HO := Lib.hid hown
        have HB := Lib.hid hbw
        have q1 : ((d : Int) == 10) = false := by simp; omega
        have q2 : ¬ (d : Int) = 10 := by omega
        clear hx hown hbw hex hgb hgk hsz
        go_wp2_with fail
        go_roundw
        case rel => exact ⟨pre, a, k + 1, rfl, congrArg (Value.int .i64) (by omega), by omega, hlt, HX.out, HO.out, HB.out⟩
        case measure => simp [Go.RowKit.intOf]; omega
    · have p1 : ¬ (k : Int) < (s.size : Int) := by omega
      have has : a ≤ s.size := by omega
      have hend := lns_end (l := l) (f := a) (k := k) (by omega)
      by_cases hlf : a < s.size
      · have p2 : (a : Int) < (s.size : Int) := by omega
        have HX := Lib.hid (show lns [] l = pre ++ [l.drop a] by rw [hx, hend, if_pos (by omega)])
        obtain ⟨v', W2, hrun, ho, hb2⟩ := app_str (s.extract a s.size) hown hbw hlen
        have ho2 : W2.ownsRow w.heap.size StT 1 v' (bsL (pre ++ [l.drop a])).length (stV (bsL (pre ++ [l.drop a]))) := by
          rw [hex, List.take_of_length_le (by simp; omega)] at ho
          rw [show bsL (pre ++ [l.drop a]) = bsL pre ++ [⟨(l.drop a).toArray⟩] by simp [bsL]]
          exact ho
        have HO := Lib.hid (show W2.ownsRow w.heap.size StT 1 v' LL.length (stV LL) by rw [← hLL, HX.out]; exact ho2)
        have HB := Lib.hid hb2
        have HRUN := Lib.hid hrun
        clear hx hown hbw ho ho2 hb2 hrun hex hgb hsz HX hend
        go_upto_region 10 with fail
        refine wp_region_lit ?_
        refine wl_pure (v := v) (fun W => rfl) rfl ?_
        simp only [nm0, nm1, nm2, nm3]
        refine wl_pure (v := .string s) (fun W => rfl) rfl ?_
        simp only [nm0, nm1, nm2, nm3]
        refine wl_pure (v := .int .i64 (a : Int)) (fun W => rfl) rfl ?_
        simp only [nm0, nm1, nm2, nm3]
        refine wl_pure (v := .string (s.extract a s.size)) (fun W => by refine run_slc_str W rfl rfl ?_; exact slc_str_lo W Tryd.underlying9 has) rfl ?_
        simp only [nm0, nm1, nm2, nm3]
        refine lw_valW (v := .slice (some ⟨wr.heap.size, 0, none⟩) 1 1) (run_slice_of (ps := #[(0, .string (s.extract a s.size))]) rfl (by simp [Act.eval]) (bs_Str _ wr)) rfl ?_
        simp only [nm0, nm1, nm2, nm3]
        refine lw_valW (v := v') (run_app_of rfl rfl rfl HRUN.out) rfl ?_
        simp only [nm0, nm1, nm2, nm3]
        refine wl_pure (v := v') (fun W => rfl) rfl ?_
        simp only [nm0, nm1, nm2, nm3]
        refine wpList_nil ?_
        go_wp2_with fail
        go_ret
        exact ⟨v', rfl, HO.out, HB.out⟩
      · have p2 : ¬ (a : Int) < (s.size : Int) := by omega
        have HO := Lib.hid (show wr.ownsRow w.heap.size StT 1 v LL.length (stV LL) by rw [← hLL, hx, hend, if_neg (by omega), List.append_nil]; exact hown)
        have HB := Lib.hid hbw
        clear hx hown hbw hex hgb hsz hend
        go_wp2_with fail
        go_ret
        exact ⟨v, rfl, HO.out, HB.out⟩
end Go.Proofs.YtdnkpclpcelbaaaDoor
