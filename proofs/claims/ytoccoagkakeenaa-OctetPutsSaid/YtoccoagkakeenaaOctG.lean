/- What the reference's Unhex answers; Put32 of few words; the law OctetHex: it returns true. -/
import Derived.Test.YtoccoagkakeenaaOctF
namespace Go.Proofs.Ytoccoagkakeenaa
open Go.RowKit
/-- A row of the call's own stays owned where nothing is written that was there. -/
theorem owns_below {w w' : World} {base : Nat} {e : TypeId} {size : Nat} {v : Value} {n : Nat} {xs : List Value} (h : w.ownsRow base e size v n xs) (hb : Below w.heap.size w w') : w'.ownsRow base e size v n xs := by
  obtain ⟨h1, h2⟩ := h
  refine ⟨h1, ?_⟩
  rcases h2 with h2 | ⟨g, cap, cur, hv, hg, hh, r⟩
  · exact Or.inl h2
  · refine Or.inr ⟨g, cap, cur, hv, hg, ?_, r⟩
    have hlt : g < w.heap.size := by
      apply Nat.lt_of_not_le
      intro hle
      rw [Array.getElem?_eq_none hle] at hh
      simp at hh
    rw [hb.block g hlt]; exact hh
theorem value_any (c : UInt8) (w : World) :
    Calls Try.prog 21 #[.int .u8 (c.toNat : Int)] w fun e w' => e = .returned (.int .u8 (rv c)) ∧ w = w' := by
  obtain ⟨b0, b1⟩ := byte_bd c
  have hle : ∀ n : Nat, n < 256 → ((UInt8.ofNat n ≤ c) ↔ ((n : Int) ≤ (c.toNat : Int))) := fun n hn => by
    rw [UInt8.le_iff_toNat_le, UInt8.toNat_ofNat']; omega
  have hge : ∀ n : Nat, n < 256 → ((c ≤ UInt8.ofNat n) ↔ ((c.toNat : Int) ≤ (n : Int))) := fun n hn => by
    rw [UInt8.le_iff_toNat_le, UInt8.toNat_ofNat']; omega
  have E : rv c = if 97 ≤ (c.toNat : Int) ∧ (c.toNat : Int) ≤ 102 then (c.toNat : Int) - 87 else (c.toNat : Int) % 16 := by
    unfold rv
    have e1 := hle 97 (by decide)
    have e2 := hge 102 (by decide)
    have e : (97 ≤ c ∧ c ≤ 102) ↔ (97 ≤ (c.toNat : Int) ∧ (c.toNat : Int) ≤ 102) := and_congr e1 e2
    by_cases h : 97 ≤ c ∧ c ≤ 102
    · rw [if_pos h, if_pos (e.1 h)]
    · rw [if_neg h, if_neg (fun h' => h (e.2 h'))]
  have HE := Lib.hid E
  clear E hle hge
  generalize (c.toNat : Int) = x at *
  by_cases h1 : 97 ≤ x
  · by_cases h2 : x ≤ 102
    · have R : Hid (rv c = x - 87) := by show _ = _; rw [HE.out, if_pos ⟨h1, h2⟩]
      go_enter Try.func21, Try.ntmps21
      go_wp2
      go_ret
      exact ⟨ret_int (by rw [R.out]; omega), rfl⟩
    · have R : Hid (rv c = x % 16) := by show _ = _; rw [HE.out, if_neg (by omega)]
      go_enter Try.func21, Try.ntmps21
      go_wp2
      go_ret
      exact ⟨ret_int R.out.symm, rfl⟩
  · have R : Hid (rv c = x % 16) := by show _ = _; rw [HE.out, if_neg (by omega)]
    go_enter Try.func21, Try.ntmps21
    go_wp2
    go_ret
    exact ⟨ret_int R.out.symm, rfl⟩
theorem rpairs_take (l : List UInt8) : ∀ k, l.length = 2 * k + 1 → rpairsL (l.take (2 * k)) = rpairsL l := by
  intro k hk
  induction k generalizing l with
  | zero => match l, hk with
    | [x], _ => rfl
  | succ k ih => match l, hk with
    | a :: b :: r, hk => 
      have := ih r (by simp at hk; omega)
      rw [show 2 * (k + 1) = 2 * k + 1 + 1 from by omega, List.take_succ_cons, List.take_succ_cons]
      simp only [rpairsL, this]
theorem runhex_any (s : ByteArray) (w : World) (hs : s.size ≤ 50000) :
    Calls Try.prog 8 #[.string s] w fun e w' => e = .returned (.tuple #[.string (unhexS s), .int .i64 (unhexE s)]) ∧ Below w.heap.size w w' := by
  obtain ⟨i0, hi, hz0, hz1, hz2⟩ := info_parts Try.info_u8
  go_enter Try.func8, Try.ntmps8
  go_wp2_with fail
  go_loopw [4, 5] (fun v i wr => ∃ k : Nat, 2 * k ≤ s.size ∧ i = .int .i64 (2 * (k : Int)) ∧ wr.ownsRow w.heap.size 5 1 v k ((rpairsL (s.data.toList.take (2 * k))).map bc) ∧ Below w.heap.size w wr) (fun _ i _ => s.size - (intOf i).toNat)
  case atStart => exact ⟨0, by omega, rfl, World.ownsRow_nil _ _ _ _, Below.refl _ _⟩
  case round =>
    obtain ⟨k, hk, rfl, hown, hb⟩ := hrel
    by_cases hlt : 2 * k + 1 < s.size
    · have q1 : 2 * (k : Int) < (s.size : Int) := by omega
      have q2 : 2 * (k : Int) + 1 < (s.size : Int) := by omega
      have q0 : 2 * k < s.size := by omega
      obtain ⟨a, ha⟩ : ∃ a, a = s[2 * k]'q0 := ⟨_, rfl⟩
      obtain ⟨b, hb'⟩ : ∃ b, b = s[2 * k + 1]'hlt := ⟨_, rfl⟩
      have hlen : s.data.toList.length = s.size := Array.length_toList
      have TT := Lib.hid (take_two s.data.toList k (by omega))
      have ea : s.data.toList[2 * k]'(by omega) = a := ha.symm
      have eb : s.data.toList[2 * k + 1]'(by omega) = b := hb'.symm
      have TS := Lib.hid (TT.out.1.trans (by rw [ea, eb] : _ = s.data.toList.take (2 * k) ++ [a, b]))
      have PS := Lib.hid (pairs_snoc (s.data.toList.take (2 * k)) k a b (by rw [List.length_take]; omega))
      obtain ⟨a1, a2⟩ := rv_bd a
      obtain ⟨b1, b2⟩ := rv_bd b
      have ha' : s[2 * k]'q0 = a := ha.symm
      have hb'' : s[2 * k + 1]'hlt = b := hb'.symm
      clear ea eb ha hb' TT hlen
      have sum1 : IntKind.i64.wrap (2 * (k : Int) + 1) = 2 * k + 1 := IntWalk.i64_in _ (by omega)
      have nat1 : (2 * (k : Int) + 1).toNat = 2 * k + 1 := by omega
      have nat0 : (2 * (k : Int)).toNat = 2 * k := by omega
      have o2 : IntKind.u8.wrap (16 * rv a) = 16 * rv a := by rw [IntKind.wrap_u8']; omega
      have o3 : IntKind.u8.wrap (16 * rv a + rv b) = 16 * rv a + rv b := by rw [IntKind.wrap_u8']; omega
      go_wp2_with fail
      go_region_held3 (fun _ => True) (first | trivial | go_keep) (first
        | (go_at_call 21; refine (value_any _ _).mono ?_; rintro e w' ⟨rfl, rfl⟩)
        | (refine step_append_own (by rfl) (.tmp 13) (.tmp 25) 42 (by rfl) w.heap.size 5 i0 (.int .u8 0) 1 1 Try.underlying42 hi hz0 hz1 hz2 rfl (by decide) _ k _ (by simp [Act.eval]; rfl) (by exact hown.alloc _) ⟨wr.heap.size, 0, none⟩ 1 1 [.int .u8 (16 * rv a + rv b)] (by simp [Act.eval]) rfl (by exact news_new wr #[_] _) (by simp [Value.oneCell']) (by unfold maxLen; omega) (by omega) (by have := hb.size; simp; omega) ?_; intro v2 w2 hown2 hgrow2))
      all_goals
        go_wp2_with fail
        go_roundw
        case rel =>
          refine ⟨k + 1, by omega, congrArg (Value.int .i64) (by omega), ?_, ((hb.alloc hb.size _).drew).grown hgrow2 (by have := hb.size; simp; omega) (fun j hj => (hown.lt j hj).1)⟩
          rw [TS.out, PS.out.2.1, List.map_append, List.map_cons, List.map_nil, bc_ofI _ (by omega) (by omega)]
          exact hown2
        case measure => simp [intOf]; omega
    · have hlen : s.data.toList.length = s.size := Array.length_toList
      have hL : rpairsL (s.data.toList.take (2 * k)) = rpairsL s.data.toList := by
        by_cases he : s.size = 2 * k
        · rw [List.take_of_length_le (by omega)]
        · exact rpairs_take _ k (by omega)
      rw [hL] at hown
      have ks := own_string (P := Try.prog) (t := 42) (ty := 9) Try.underlying42 Try.underlying5 Try.underlying9 hown
      have hrl : (⟨(rpairsL s.data.toList).toArray⟩ : ByteArray).size ≤ 100000 := by
        have h1 := hown.1
        show (rpairsL s.data.toList).toArray.size ≤ _
        simp at h1 ⊢
        omega
      generalize hR : rpairsL s.data.toList = R at *
      have HR := Lib.hid hR
      clear hL hR
      cases hok : okP s.data.toList
      · have q : (hexL R == s.toList) = false := by
          rw [ByteArray.toList_eq, beq_eq_false_iff_ne]
          intro h
          have h2 := (okP_hex R).1
          rw [h, hok] at h2
          exact absurd h2 (by decide)
        have E1 := Lib.hid (by simp only [unhexS, hok]; rfl : unhexS s = ⟨#[]⟩)
        have E2 := Lib.hid (by simp only [unhexE, hok]; rfl : unhexE s = 6)
        clear hok
        go_wp2_with (go_at_call 10; refine (rhex_any _ _ hrl).mono ?_; rintro e w' ⟨rfl, hb2⟩)
        go_ret2
        exact ⟨ret_si E1.out.symm E2.out.symm, gr_step hb hb2⟩
      · have q : (hexL R == s.toList) = true := by
          rw [ByteArray.toList_eq, beq_iff_eq, ← HR.out, (okP_yes _ hok).1]
          exact (okP_yes _ hok).2
        have E1 := Lib.hid (by simp only [unhexS, hok, ← HR.out, (okP_yes _ hok).1]; rfl : unhexS s = ⟨R.toArray⟩)
        have E2 := Lib.hid (by simp only [unhexE, hok]; rfl : unhexE s = 0)
        clear hok
        go_wp2_with (go_at_call 10; refine (rhex_any _ _ hrl).mono ?_; rintro e w' ⟨rfl, hb2⟩; have ks2 := own_string (P := Try.prog) (t := 42) (ty := 9) Try.underlying42 Try.underlying5 Try.underlying9 (owns_below hown hb2))
        go_ret2
        exact ⟨ret_si E1.out.symm E2.out.symm, gr_step hb hb2⟩
end Go.Proofs.Ytoccoagkakeenaa
