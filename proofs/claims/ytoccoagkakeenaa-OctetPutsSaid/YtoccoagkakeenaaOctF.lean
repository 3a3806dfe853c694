/- What Unhex of octet and of the reference answer. -/
import Derived.Test.YtoccoagkakeenaaOctE
import Derived.Test.YtoccoagkakeenaaShelf
namespace Go.Proofs.Ytoccoagkakeenaa
open Go.RowKit
/-- What a digit stands for; -1: none. -/
def dv (c : UInt8) : Int := Lib.indexByte [48, 49, 50, 51, 52, 53, 54, 55, 56, 57, 97, 98, 99, 100, 101, 102] c
/-- The reference's value of a sign. -/
def rv (c : UInt8) : Int := if 97 ≤ c ∧ c ≤ 102 then (c.toNat : Int) - 87 else (c.toNat : Int) % 16
theorem all_bytes (p : UInt8 → Bool) (h : (List.range 256).all (fun n => p (UInt8.ofNat n)) = true) (c : UInt8) : p c = true := by
  have h1 := List.all_eq_true.1 h c.toNat (List.mem_range.2 c.toNat_lt)
  simpa using h1
theorem dv_facts (c : UInt8) : -1 ≤ dv c ∧ dv c < 16 ∧ (0 ≤ dv c → rv c = dv c ∧ ofI (hexd (dv c)) = c) := by
  have h := all_bytes (fun c => decide (-1 ≤ dv c ∧ dv c < 16 ∧ (0 ≤ dv c → rv c = dv c ∧ ofI (hexd (dv c)) = c))) (by decide +kernel) c
  exact of_decide_eq_true h
theorem dv_hexd (x : Int) (x0 : 0 ≤ x) (x1 : x < 16) : dv (ofI (hexd x)) = x := by
  obtain ⟨n, rfl⟩ := Int.eq_ofNat_of_zero_le x0
  have hn : n < 16 := by omega
  match n, hn with
  | 0, _ => rfl | 1, _ => rfl | 2, _ => rfl | 3, _ => rfl | 4, _ => rfl | 5, _ => rfl | 6, _ => rfl | 7, _ => rfl
  | 8, _ => rfl | 9, _ => rfl | 10, _ => rfl | 11, _ => rfl | 12, _ => rfl | 13, _ => rfl | 14, _ => rfl | 15, _ => rfl
theorem rv_bd (c : UInt8) : 0 ≤ rv c ∧ rv c < 16 := by
  have h := all_bytes (fun c => decide (0 ≤ rv c ∧ rv c < 16)) (by decide +kernel) c
  exact of_decide_eq_true h
/-- Pairs of signs as bytes; are all of them digits? -/
def pairsL : List UInt8 → List UInt8
  | a :: b :: r => ofI (dv a * 16 + dv b) :: pairsL r
  | _ => []
def rpairsL : List UInt8 → List UInt8
  | a :: b :: r => ofI (16 * rv a + rv b) :: rpairsL r
  | _ => []
def okP : List UInt8 → Bool
  | a :: b :: r => decide (0 ≤ dv a) && decide (0 ≤ dv b) && okP r
  | [_] => false
  | [] => true
theorem pairs_snoc : ∀ (l : List UInt8) (k : Nat) (a b : UInt8), l.length = 2 * k → pairsL (l ++ [a, b]) = pairsL l ++ [ofI (dv a * 16 + dv b)] ∧ rpairsL (l ++ [a, b]) = rpairsL l ++ [ofI (16 * rv a + rv b)] ∧ okP (l ++ [a, b]) = (okP l && (decide (0 ≤ dv a) && decide (0 ≤ dv b)))
  | [], _, a, b, _ => by simp [pairsL, rpairsL, okP]
  | [x], k, _, _, h => by simp at h; omega
  | x :: y :: r, k, a, b, h => by
    obtain ⟨h1, h2, h3⟩ := pairs_snoc r (k - 1) a b (by simp at h; omega)
    simp only [List.cons_append, pairsL, rpairsL, okP, h1, h2, h3]
    refine ⟨trivial, trivial, ?_⟩
    simp [Bool.and_assoc]
theorem okP_bad : ∀ (l : List UInt8) (k : Nat) (a b : UInt8) (r : List UInt8), l.length = 2 * k → (decide (0 ≤ dv a) && decide (0 ≤ dv b)) = false → okP (l ++ a :: b :: r) = false
  | [], _, a, b, r, _, h => by simp only [List.nil_append, okP, h, Bool.false_and]
  | [x], k, _, _, _, h, _ => by simp at h; omega
  | x :: y :: t, k, a, b, r, h, hb => by
    have h1 := okP_bad t (k - 1) a b r (by simp at h; omega) hb
    simp only [List.cons_append, okP, h1, Bool.and_false]
theorem okP_odd : ∀ (l : List UInt8) (k : Nat), l.length = 2 * k + 1 → okP l = false
  | [], _, h => by simp at h
  | [x], _, _ => rfl
  | x :: y :: t, k, h => by
    have h1 := okP_odd t (k - 1) (by simp at h; omega)
    simp only [okP, h1, Bool.and_false]
theorem okP_yes : ∀ (l : List UInt8), okP l = true → rpairsL l = pairsL l ∧ hexL (pairsL l) = l
  | [], _ => ⟨rfl, rfl⟩
  | [_], h => by simp [okP] at h
  | a :: b :: r, h => by
    simp only [okP, Bool.and_eq_true, decide_eq_true_eq] at h
    obtain ⟨⟨h1, h2⟩, h3⟩ := h
    obtain ⟨i1, i2⟩ := okP_yes r h3
    obtain ⟨_, a1, a2⟩ := dv_facts a
    obtain ⟨_, b1, b2⟩ := dv_facts b
    obtain ⟨a3, a4⟩ := a2 h1
    obtain ⟨b3, b4⟩ := b2 h2
    refine ⟨?_, ?_⟩
    · simp only [rpairsL, pairsL, i1, a3, b3, Int.mul_comm]
    · show hexL (ofI (dv a * 16 + dv b) :: pairsL r) = _
      unfold hexL at i2 ⊢
      rw [List.flatMap_cons, i2]
      unfold hexB
      rw [toNat_ofI _ (by omega) (by omega)]
      have e1 : (dv a * 16 + dv b) / 16 = dv a := by omega
      have e2 : (dv a * 16 + dv b) % 16 = dv b := by omega
      rw [e1, e2, a4, b4]; rfl
theorem okP_hex : ∀ (l : List UInt8), okP (hexL l) = true ∧ pairsL (hexL l) = l
  | [] => ⟨rfl, rfl⟩
  | b :: r => by
    obtain ⟨i1, i2⟩ := okP_hex r
    obtain ⟨b0, b1⟩ := byte_bd b
    have e : hexL (b :: r) = ofI (hexd ((b.toNat : Int) / 16)) :: ofI (hexd ((b.toNat : Int) % 16)) :: hexL r := rfl
    have d1 := dv_hexd ((b.toNat : Int) / 16) (by omega) (by omega)
    have d2 := dv_hexd ((b.toNat : Int) % 16) (by omega) (by omega)
    rw [e]
    simp only [okP, pairsL, d1, d2, i1, i2]
    refine ⟨by simp; omega, ?_⟩
    have e3 : (b.toNat : Int) / 16 * 16 + (b.toNat : Int) % 16 = b.toNat := by omega
    rw [e3]
    congr 1
    unfold ofI
    simp
theorem or_digits (x y : Int) (x0 : 0 ≤ x) (x1 : x < 16) (y0 : 0 ≤ y) (y1 : y < 16) : bits .or .i64 (x * 16) y = x * 16 + y := by
  obtain ⟨a, rfl⟩ := Int.eq_ofNat_of_zero_le x0
  obtain ⟨b, rfl⟩ := Int.eq_ofNat_of_zero_le y0
  have h : (List.range 16).all (fun a => (List.range 16).all fun b => decide (bits .or .i64 ((a : Int) * 16) (b : Int) = (a : Int) * 16 + b)) = true := by decide +kernel
  have h1 := List.all_eq_true.1 h a (List.mem_range.2 (by omega))
  have h2 := List.all_eq_true.1 h1 b (List.mem_range.2 (by omega))
  exact of_decide_eq_true h2
theorem idx_any (c : UInt8) (w : World) :
    Calls Try.prog 20 #[.string ⟨#[48, 49, 50, 51, 52, 53, 54, 55, 56, 57, 97, 98, 99, 100, 101, 102]⟩, .int .u8 (c.toNat : Int)] w fun e w' => e = .returned (.int .i64 (dv c)) ∧ w' = w := by
  refine (Try.strings_IndexByte _ _ w).mono ?_
  rintro e w' ⟨rfl, rfl⟩
  refine ⟨ret_int ?_, rfl⟩
  have e1 : ((c.toNat : Int).toNat).toUInt8 = c := by simp
  rw [e1]; rfl
theorem take_two (l : List UInt8) (k : Nat) (h : 2 * k + 1 < l.length) : l.take (2 * (k + 1)) = l.take (2 * k) ++ [l[2 * k], l[2 * k + 1]] ∧ l = l.take (2 * k) ++ l[2 * k] :: l[2 * k + 1] :: l.drop (2 * k + 2) := by
  refine ⟨?_, ?_⟩
  · rw [show 2 * (k + 1) = 2 * k + 1 + 1 from by omega, List.take_succ_eq_append_getElem h, List.take_succ_eq_append_getElem (by omega : 2 * k < l.length), List.append_assoc]; rfl
  · have h1 : l.drop (2 * k) = l[2 * k] :: l[2 * k + 1] :: l.drop (2 * k + 2) := by
      rw [List.drop_eq_getElem_cons (by omega : 2 * k < l.length), List.drop_eq_getElem_cons h]
    rw [← h1, List.take_append_drop]
/-- What Unhex answers: the bytes, and the error's number. -/
def unhexS (s : ByteArray) : ByteArray := if okP s.data.toList then ⟨(pairsL s.data.toList).toArray⟩ else ⟨#[]⟩
def unhexE (s : ByteArray) : Int := if okP s.data.toList then 0 else 6
theorem unhex_odd (s : ByteArray) (w : World) (hs : s.size ≤ 100000) (k : Nat) (hk : s.size = 2 * k + 1) :
    Calls Try.prog 7 #[.string s] w fun e w' => e = .returned (.tuple #[.string ⟨#[]⟩, .int .i64 6]) ∧ w = w' := by
  have t : ((s.size : Int) % 2 != 0) = true := by simp; omega
  have Hk := Lib.hid hk
  clear hk
  go_enter Try.func7, Try.ntmps7
  go_wp2
  go_ret2
  exact ⟨rfl, rfl⟩
theorem unhex_even (s : ByteArray) (w : World) (n : Nat) (hs : s.size = 2 * n) (hn : n ≤ 50000) :
    Calls Try.prog 7 #[.string s] w fun e w' => e = .returned (.tuple #[.string (unhexS s), .int .i64 (unhexE s)]) ∧ Below w.heap.size w w' := by
  obtain ⟨i0, hi, hz0, hz1, hz2⟩ := info_parts Try.info_u8
  have hn' : s.size / 2 = n := by omega
  have Hs := Lib.hid hs
  have t : ((s.size : Int) % 2 != 0) = false := by simp; omega
  have t2 : s.size ≤ 100000 := by omega
  clear hs hn'
  go_enter Try.func7, Try.ntmps7
  go_wp2_with (at_make; refine wpList_make_own _ rfl (.const (.int .i64 0)) (.tmp 14) 42 rfl w.heap.size 5 i0 (.int .u8 0) 1 Try.underlying42 hi hz0 hz1 .i64 .i64 ((s.size / 2 : Nat) : Int) (s.size / 2) rfl (by simp [Act.eval]) rfl (by rw [hz2]; omega) (by unfold maxLen; omega) (Nat.le_refl _) ?_; intro w1 hown1 hgrow1)
  go_loopw [4, 5] (fun v i wr => ∃ k : Nat, k ≤ n ∧ i = .int .i64 (2 * (k : Int)) ∧ wr.ownsRow w.heap.size 5 1 v k ((pairsL (s.data.toList.take (2 * k))).map bc) ∧ okP (s.data.toList.take (2 * k)) = true ∧ Below w.heap.size w wr) (fun _ i _ => s.size - (intOf i).toNat)
  case atStart => exact ⟨0, by omega, rfl, hown1, rfl, (Below.refl _ _).grown hgrow1 (Nat.le_refl _) (by simp)⟩
  case round =>
    obtain ⟨k, hk, rfl, hown, hok, hb⟩ := hrel
    by_cases hlt : k < n
    · have hsz : 2 * k + 1 < s.size := by have := Hs.out; omega
      have q1 : 2 * (k : Int) < (s.size : Int) := by omega
      have q2 : 2 * (k : Int) + 1 < (s.size : Int) := by omega
      have q0 : 2 * k < s.size := by omega
      have hlen : s.data.toList.length = s.size := Array.length_toList
      have TT := Lib.hid (take_two s.data.toList k (by omega))
      obtain ⟨a, ha⟩ : ∃ a, a = s[2 * k] := ⟨_, rfl⟩
      obtain ⟨b, hb'⟩ : ∃ b, b = s[2 * k + 1] := ⟨_, rfl⟩
      have ea : s.data.toList[2 * k]'(by omega) = a := ha.symm
      have eb : s.data.toList[2 * k + 1]'(by omega) = b := hb'.symm
      have TS := Lib.hid (TT.out.1.trans (by rw [ea, eb] : _ = s.data.toList.take (2 * k) ++ [a, b]))
      have TD := Lib.hid (TT.out.2.trans (by rw [ea, eb] : _ = s.data.toList.take (2 * k) ++ a :: b :: s.data.toList.drop (2 * k + 2)))
      have PS := Lib.hid (pairs_snoc (s.data.toList.take (2 * k)) k a b (by rw [List.length_take]; omega))
      have PB := fun h => okP_bad (s.data.toList.take (2 * k)) k a b (s.data.toList.drop (2 * k + 2)) (by rw [List.length_take]; omega) h
      obtain ⟨a1, a2, _⟩ := dv_facts a
      obtain ⟨b1, b2, _⟩ := dv_facts b
      have PB' := Lib.hid PB
      have ha' : s[2 * k] = a := ha.symm
      have hb'' : s[2 * k + 1] = b := hb'.symm
      clear ea eb PB ha hb' TT hlen
      have sum1 : IntKind.i64.wrap (2 * (k : Int) + 1) = 2 * k + 1 := IntWalk.i64_in _ (by omega)
      have nat1 : (2 * (k : Int) + 1).toNat = 2 * k + 1 := by omega
      have nat0 : (2 * (k : Int)).toNat = 2 * k := by omega
      by_cases d1 : 0 ≤ dv a
      · by_cases d2 : 0 ≤ dv b
        · have o1 := or_digits (dv a) (dv b) d1 a2 d2 b2
          have o2 : IntKind.i64.wrap (dv a * 16) = dv a * 16 := IntWalk.i64_in _ (by omega)
          have o3 : IntKind.u8.wrap (dv a * 16 + dv b) = dv a * 16 + dv b := by rw [IntKind.wrap_u8']; omega
          go_wp2_with fail
          go_quiet ((go_at_call 20; exact Calls.quiet_of_same (idx_any _ _)))
          go_wp2_with (at_builtin; refine wpList_append_own _ (by rfl) (.tmp 37) (.tmp 43) 42 (by rfl) w.heap.size 5 i0 (.int .u8 0) 1 1 Try.underlying42 hi hz0 hz1 hz2 rfl (by decide) _ k _ (by simp [Act.eval]; rfl) (by exact hown.alloc _) ⟨wr.heap.size, 0, none⟩ 1 1 [.int .u8 (dv a * 16 + dv b)] (by simp [Act.eval]) rfl (by exact news_new wr #[_] _) (by simp [Value.oneCell']) (by unfold maxLen; omega) (by omega) (by have := hb.size; simp; omega) ?_; intro v2 w2 hown2 hgrow2 _)
          go_roundw
          case rel =>
            obtain ⟨p1, _, p3⟩ := PS.out
            refine ⟨k + 1, by omega, congrArg (Value.int .i64) (by omega), ?_, ?_, ((below_drewN hb _).alloc hb.size _).grown hgrow2 (by have := hb.size; simp; omega) (fun j hj => (hown.lt j hj).1)⟩
            · rw [TS.out, p1, List.map_append, List.map_cons, List.map_nil, bc_ofI _ (by omega) (by omega)]
              exact hown2
            · rw [TS.out, p3, hok]; simp; omega
          case measure => simp [intOf]; omega
        · go_wp2_with fail
          go_quiet ((go_at_call 20; exact Calls.quiet_of_same (idx_any _ _)))
          go_wp2_with fail
          go_ret2
          have hbad : okP s.data.toList = false := by rw [TD.out]; exact PB'.out (by simp; omega)
          exact ⟨by simp only [unhexS, unhexE, hbad]; rfl, below_drewN hb _⟩
      · go_wp2_with fail
        go_quiet ((go_at_call 20; exact Calls.quiet_of_same (idx_any _ _)))
        go_wp2_with fail
        go_ret2
        have hbad : okP s.data.toList = false := by rw [TD.out]; exact PB'.out (by simp; omega)
        exact ⟨by simp only [unhexS, unhexE, hbad]; rfl, below_drewN hb _⟩
    · obtain rfl : k = n := by omega
      have hL : s.data.toList.take (2 * k) = s.data.toList := List.take_of_length_le (by have := Hs.out; have h2 : s.data.toList.length = s.size := Array.length_toList; omega)
      rw [hL] at hown hok
      have ks := own_string (P := Try.prog) (t := 42) (ty := 9) Try.underlying42 Try.underlying5 Try.underlying9 hown
      have q1 : (s.size : Int) ≤ 2 * (k : Int) := by have := Hs.out; omega
      have E1 := Lib.hid (by simp only [unhexS, hok]; rfl : unhexS s = ⟨(pairsL s.data.toList).toArray⟩)
      have E2 := Lib.hid (by simp only [unhexE, hok]; rfl : unhexE s = 0)
      clear hL hok
      go_wp2_with fail
      go_ret2
      exact ⟨ret_si E1.out.symm E2.out.symm, hb⟩
end Go.Proofs.Ytoccoagkakeenaa
