/- What the reference of layer 1 answers, for other seats: digit, Hex, value, Unhex; Get. -/
import Derived.Test.YthalmomheecpcaaAid
import Derived.Laws.BitsAllLaws
import Derived.Laws.Bits64
import Derived.IntWalk
import Derived.Lib.Bytealg
import Derived.Deep.RegionLaw
import Derived.Deep.AppendLies
namespace Go.Proofs.Ythalmomheecpcaa
open Go.RowKit
/-- A digit to the base 16. -/
def hexd (x : Int) : Int := if x < 10 then x + 48 else x + 87
theorem digit_any (x : Int) (w : World) (x0 : 0 ≤ x) (x1 : x < 16) :
    Calls Try.prog 62 #[.int .u8 x] w fun e w' => e = .returned (.int .u8 (hexd x)) ∧ w = w' := by
  by_cases h : x < 10
  · have E : Hid (hexd x = x + 48) := if_pos h
    go_enter Try.func62, Try.ntmps62
    go_wp2
    go_ret
    exact ⟨ret_int (by rw [E.out]; omega), rfl⟩
  · have E : Hid (hexd x = x + 87) := if_neg h
    go_enter Try.func62, Try.ntmps62
    go_wp2
    go_ret
    exact ⟨ret_int (by rw [E.out]; omega), rfl⟩
theorem Try.rinfo_u8 : (Try.prog.info? 5).map (fun i => (i.zero, i.size, i.bytes)) = some (some (.int .u8 0), 1, 1) := by kernel_rfl
/-- Two digits of each byte. -/
def hexB (b : UInt8) : List UInt8 := [ofI (hexd ((b.toNat : Int) / 16)), ofI (hexd ((b.toNat : Int) % 16))]
def hexL (l : List UInt8) : List UInt8 := l.flatMap hexB
theorem hexd_bd (x : Int) (x0 : 0 ≤ x) (x1 : x < 16) : 48 ≤ hexd x ∧ hexd x < 103 := by unfold hexd; split <;> omega
theorem byte_bd (b : UInt8) : 0 ≤ (b.toNat : Int) ∧ (b.toNat : Int) < 256 := by have := b.toNat_lt; omega
theorem hexB_cells (b : UInt8) : [Value.int .u8 (hexd ((b.toNat : Int) / 16)), Value.int .u8 (hexd ((b.toNat : Int) % 16))] = (hexB b).map bc := by
  obtain ⟨b0, b1⟩ := byte_bd b
  have h1 := hexd_bd ((b.toNat : Int) / 16) (by omega) (by omega)
  have h2 := hexd_bd ((b.toNat : Int) % 16) (by omega) (by omega)
  unfold hexB
  rw [List.map_cons, List.map_cons, List.map_nil, bc_ofI _ (by omega) (by omega), bc_ofI _ (by omega) (by omega)]
theorem take_bytes (s : ByteArray) (k : Nat) (h : k < s.size) : s.data.toList.take (k + 1) = s.data.toList.take k ++ [s[k]] := by
  rw [List.take_succ_eq_append_getElem (by simpa using h)]; rfl
theorem hexL_snoc (l : List UInt8) (b : UInt8) : hexL (l ++ [b]) = hexL l ++ hexB b := by simp [hexL]
theorem rhex_any (s : ByteArray) (w : World) (hs : s.size ≤ 100000) :
    Calls Try.prog 51 #[.string s] w fun e w' => e = .returned (.string ⟨(hexL s.data.toList).toArray⟩) ∧ Below w.heap.size w w' := by
  obtain ⟨i0, hi, hz0, hz1, hz2⟩ := info_parts Try.rinfo_u8
  go_enter Try.func51, Try.ntmps51
  go_wp2_with fail
  go_loopw [3, 4] (fun v i wr => ∃ k : Nat, k ≤ s.size ∧ i = .int .i64 k ∧ wr.ownsRow w.heap.size 5 1 v (2 * k) ((hexL (s.data.toList.take k)).map bc) ∧ Below w.heap.size w wr) (fun _ i _ => s.size - (intOf i).toNat)
  case atStart => exact ⟨0, by omega, rfl, World.ownsRow_nil _ _ _ _, Below.refl _ _⟩
  case round =>
    obtain ⟨k, hk, rfl, hown, hb⟩ := hrel
    by_cases hlt : k < s.size
    · have hT := Lib.hid (take_bytes s k hlt)
      obtain ⟨b0, b1⟩ := byte_bd s[k]
      have w1 : IntKind.u8.wrap ((s[k].toNat : Int) / 16) = (s[k].toNat : Int) / 16 := by rw [IntKind.wrap_u8']; omega
      have w2 : (s[k].toNat : Int).tmod 16 = (s[k].toNat : Int) % 16 := Int.tmod_eq_emod_of_nonneg b0
      have hli : (k : Int) < (s.size : Int) := by omega
      go_wp2_with fail
      go_region_held3 (fun _ => True) (first | trivial | go_keep) (first
        | (go_at_call 62; go_must (refine (digit_any _ _ (by omega) (by omega)).mono ?_); rintro e w' ⟨rfl, rfl⟩)
        | (refine step_append_own (by rfl) (.tmp 11) (.tmp 22) 61 (by rfl) w.heap.size 5 i0 (.int .u8 0) 1 1 Try.underlying61 hi hz0 hz1 hz2 rfl (by decide) _ (2 * k) _ (by simp [Act.eval]; rfl) (by exact hown.alloc _) ⟨wr.heap.size, 0, none⟩ 2 2 [.int .u8 (hexd ((s[k].toNat : Int) / 16)), .int .u8 (hexd ((s[k].toNat : Int) % 16))] (by simp [Act.eval]) rfl (by exact news_new wr #[_, _] _) (by simp [Value.oneCell']) (by unfold maxLen; omega) (by omega) (by have := hb.size; simp; omega) ?_; intro v2 w2 hown2 hgrow2))
      all_goals
        go_wp2_with fail
        go_roundw
        case rel =>
          refine ⟨k + 1, by omega, by go_num, ?_, ((hb.alloc hb.size _).drew).grown hgrow2 (by have := hb.size; simp; omega) (fun j hj => (hown.lt j hj).1)⟩
          rw [hT.out, hexL_snoc, List.map_append, ← hexB_cells]
          exact hown2
        case measure => simp [intOf]; omega
    · obtain rfl : k = s.size := by omega
      have hL : s.data.toList.take s.size = s.data.toList := List.take_of_length_le (Nat.le_of_eq Array.length_toList)
      rw [hL] at hown
      have ks := own_string (P := Try.prog) (t := 61) (ty := 9) Try.underlying61 Try.underlying5 Try.underlying9 hown
      clear hL
      go_wp2_with fail
      go_ret
      exact ⟨rfl, hb⟩
/-- What a digit stands for; -1: none. -/
def dv (c : UInt8) : Int := Lib.indexByte [48, 49, 50, 51, 52, 53, 54, 55, 56, 57, 97, 98, 99, 100, 101, 102] c
/-- The reference's value of a sign. -/
def rv (c : UInt8) : Int := if 97 ≤ c ∧ c ≤ 102 then (c.toNat : Int) - 87 else (c.toNat : Int) % 16
theorem all_bytes (p : UInt8 → Bool) (h : (List.range 256).all (fun n => p (UInt8.ofNat n)) = true) (c : UInt8) : p c = true := by
  have h1 := List.all_eq_true.1 h c.toNat (List.mem_range.2 c.toNat_lt)
  simpa using h1
theorem dv_facts (c : UInt8) : -1 ≤ dv c ∧ dv c < 16 ∧ (0 ≤ dv c → rv c = dv c ∧ ofI (hexd (dv c)) = c) := by
  have h := all_bytes (fun c => decide (-1 ≤ dv c ∧ dv c < 16 ∧ (0 ≤ dv c → rv c = dv c ∧ ofI (hexd (dv c)) = c))) (by decide +kernel) c
  exact of_decide_eq_true h
theorem dv_hexd (x : Int) (x0 : 0 ≤ x) (x1 : x < 16) : dv (ofI (hexd x)) = x := by
  obtain ⟨n, rfl⟩ := Int.eq_ofNat_of_zero_le x0
  have hn : n < 16 := by omega
  match n, hn with
  | 0, _ => rfl | 1, _ => rfl | 2, _ => rfl | 3, _ => rfl | 4, _ => rfl | 5, _ => rfl | 6, _ => rfl | 7, _ => rfl
  | 8, _ => rfl | 9, _ => rfl | 10, _ => rfl | 11, _ => rfl | 12, _ => rfl | 13, _ => rfl | 14, _ => rfl | 15, _ => rfl
theorem rv_bd (c : UInt8) : 0 ≤ rv c ∧ rv c < 16 := by
  have h := all_bytes (fun c => decide (0 ≤ rv c ∧ rv c < 16)) (by decide +kernel) c
  exact of_decide_eq_true h
/-- Pairs of signs as bytes; are all of them digits? -/
def pairsL : List UInt8 → List UInt8
  | a :: b :: r => ofI (dv a * 16 + dv b) :: pairsL r
  | _ => []
def rpairsL : List UInt8 → List UInt8
  | a :: b :: r => ofI (16 * rv a + rv b) :: rpairsL r
  | _ => []
def okP : List UInt8 → Bool
  | a :: b :: r => decide (0 ≤ dv a) && decide (0 ≤ dv b) && okP r
  | [_] => false
  | [] => true
theorem pairs_snoc : ∀ (l : List UInt8) (k : Nat) (a b : UInt8), l.length = 2 * k → pairsL (l ++ [a, b]) = pairsL l ++ [ofI (dv a * 16 + dv b)] ∧ rpairsL (l ++ [a, b]) = rpairsL l ++ [ofI (16 * rv a + rv b)] ∧ okP (l ++ [a, b]) = (okP l && (decide (0 ≤ dv a) && decide (0 ≤ dv b)))
  | [], _, a, b, _ => by simp [pairsL, rpairsL, okP]
  | [x], k, _, _, h => by simp at h; omega
  | x :: y :: r, k, a, b, h => by
    obtain ⟨h1, h2, h3⟩ := pairs_snoc r (k - 1) a b (by simp at h; omega)
    simp only [List.cons_append, pairsL, rpairsL, okP, h1, h2, h3]
    refine ⟨trivial, trivial, ?_⟩
    simp [Bool.and_assoc]
theorem okP_bad : ∀ (l : List UInt8) (k : Nat) (a b : UInt8) (r : List UInt8), l.length = 2 * k → (decide (0 ≤ dv a) && decide (0 ≤ dv b)) = false → okP (l ++ a :: b :: r) = false
  | [], _, a, b, r, _, h => by simp only [List.nil_append, okP, h, Bool.false_and]
  | [x], k, _, _, _, h, _ => by simp at h; omega
  | x :: y :: t, k, a, b, r, h, hb => by
    have h1 := okP_bad t (k - 1) a b r (by simp at h; omega) hb
    simp only [List.cons_append, okP, h1, Bool.and_false]
theorem okP_odd : ∀ (l : List UInt8) (k : Nat), l.length = 2 * k + 1 → okP l = false
  | [], _, h => by simp at h
  | [x], _, _ => rfl
  | x :: y :: t, k, h => by
    have h1 := okP_odd t (k - 1) (by simp at h; omega)
    simp only [okP, h1, Bool.and_false]
theorem okP_yes : ∀ (l : List UInt8), okP l = true → rpairsL l = pairsL l ∧ hexL (pairsL l) = l
  | [], _ => ⟨rfl, rfl⟩
  | [_], h => by simp [okP] at h
  | a :: b :: r, h => by
    simp only [okP, Bool.and_eq_true, decide_eq_true_eq] at h
    obtain ⟨⟨h1, h2⟩, h3⟩ := h
    obtain ⟨i1, i2⟩ := okP_yes r h3
    obtain ⟨_, a1, a2⟩ := dv_facts a
    obtain ⟨_, b1, b2⟩ := dv_facts b
    obtain ⟨a3, a4⟩ := a2 h1
    obtain ⟨b3, b4⟩ := b2 h2
    refine ⟨?_, ?_⟩
    · simp only [rpairsL, pairsL, i1, a3, b3, Int.mul_comm]
    · show hexL (ofI (dv a * 16 + dv b) :: pairsL r) = _
      unfold hexL at i2 ⊢
      rw [List.flatMap_cons, i2]
      unfold hexB
      rw [toNat_ofI _ (by omega) (by omega)]
      have e1 : (dv a * 16 + dv b) / 16 = dv a := by omega
      have e2 : (dv a * 16 + dv b) % 16 = dv b := by omega
      rw [e1, e2, a4, b4]; rfl
theorem okP_hex : ∀ (l : List UInt8), okP (hexL l) = true ∧ pairsL (hexL l) = l
  | [] => ⟨rfl, rfl⟩
  | b :: r => by
    obtain ⟨i1, i2⟩ := okP_hex r
    obtain ⟨b0, b1⟩ := byte_bd b
    have e : hexL (b :: r) = ofI (hexd ((b.toNat : Int) / 16)) :: ofI (hexd ((b.toNat : Int) % 16)) :: hexL r := rfl
    have d1 := dv_hexd ((b.toNat : Int) / 16) (by omega) (by omega)
    have d2 := dv_hexd ((b.toNat : Int) % 16) (by omega) (by omega)
    rw [e]
    simp only [okP, pairsL, d1, d2, i1, i2]
    refine ⟨by simp; omega, ?_⟩
    have e3 : (b.toNat : Int) / 16 * 16 + (b.toNat : Int) % 16 = b.toNat := by omega
    rw [e3]
    congr 1
    unfold ofI
    simp
theorem take_two (l : List UInt8) (k : Nat) (h : 2 * k + 1 < l.length) : l.take (2 * (k + 1)) = l.take (2 * k) ++ [l[2 * k], l[2 * k + 1]] ∧ l = l.take (2 * k) ++ l[2 * k] :: l[2 * k + 1] :: l.drop (2 * k + 2) := by
  refine ⟨?_, ?_⟩
  · rw [show 2 * (k + 1) = 2 * k + 1 + 1 from by omega, List.take_succ_eq_append_getElem h, List.take_succ_eq_append_getElem (by omega : 2 * k < l.length), List.append_assoc]; rfl
  · have h1 : l.drop (2 * k) = l[2 * k] :: l[2 * k + 1] :: l.drop (2 * k + 2) := by
      rw [List.drop_eq_getElem_cons (by omega : 2 * k < l.length), List.drop_eq_getElem_cons h]
    rw [← h1, List.take_append_drop]
/-- What Unhex answers: the bytes, and the error's number. -/
def unhexS (s : ByteArray) : ByteArray := if okP s.data.toList then ⟨(pairsL s.data.toList).toArray⟩ else ⟨#[]⟩
def unhexE (s : ByteArray) : Int := if okP s.data.toList then 0 else 6
/-- A row of the call's own stays owned where nothing is written that was there. -/
theorem owns_below {w w' : World} {base : Nat} {e : TypeId} {size : Nat} {v : Value} {n : Nat} {xs : List Value} (h : w.ownsRow base e size v n xs) (hb : Below w.heap.size w w') : w'.ownsRow base e size v n xs := by
  obtain ⟨h1, h2⟩ := h
  refine ⟨h1, ?_⟩
  rcases h2 with h2 | ⟨g, cap, cur, hv, hg, hh, r⟩
  · exact Or.inl h2
  · refine Or.inr ⟨g, cap, cur, hv, hg, ?_, r⟩
    have hlt : g < w.heap.size := by
      apply Nat.lt_of_not_le
      intro hle
      rw [Array.getElem?_eq_none hle] at hh
      simp at hh
    rw [hb.block g hlt]; exact hh
theorem value_any (c : UInt8) (w : World) :
    Calls Try.prog 50 #[.int .u8 (c.toNat : Int)] w fun e w' => e = .returned (.int .u8 (rv c)) ∧ w = w' := by
  obtain ⟨b0, b1⟩ := byte_bd c
  have hle : ∀ n : Nat, n < 256 → ((UInt8.ofNat n ≤ c) ↔ ((n : Int) ≤ (c.toNat : Int))) := fun n hn => by
    rw [UInt8.le_iff_toNat_le, UInt8.toNat_ofNat']; omega
  have hge : ∀ n : Nat, n < 256 → ((c ≤ UInt8.ofNat n) ↔ ((c.toNat : Int) ≤ (n : Int))) := fun n hn => by
    rw [UInt8.le_iff_toNat_le, UInt8.toNat_ofNat']; omega
  have E : rv c = if 97 ≤ (c.toNat : Int) ∧ (c.toNat : Int) ≤ 102 then (c.toNat : Int) - 87 else (c.toNat : Int) % 16 := by
    unfold rv
    have e1 := hle 97 (by decide)
    have e2 := hge 102 (by decide)
    have e : (97 ≤ c ∧ c ≤ 102) ↔ (97 ≤ (c.toNat : Int) ∧ (c.toNat : Int) ≤ 102) := and_congr e1 e2
    by_cases h : 97 ≤ c ∧ c ≤ 102
    · rw [if_pos h, if_pos (e.1 h)]
    · rw [if_neg h, if_neg (fun h' => h (e.2 h'))]
  have HE := Lib.hid E
  clear E hle hge
  generalize (c.toNat : Int) = x at *
  by_cases h1 : 97 ≤ x
  · by_cases h2 : x ≤ 102
    · have R : Hid (rv c = x - 87) := by show _ = _; rw [HE.out, if_pos ⟨h1, h2⟩]
      go_enter Try.func50, Try.ntmps50
      go_wp2
      go_ret
      exact ⟨ret_int (by rw [R.out]; omega), rfl⟩
    · have R : Hid (rv c = x % 16) := by show _ = _; rw [HE.out, if_neg (by omega)]
      go_enter Try.func50, Try.ntmps50
      go_wp2
      go_ret
      exact ⟨ret_int R.out.symm, rfl⟩
  · have R : Hid (rv c = x % 16) := by show _ = _; rw [HE.out, if_neg (by omega)]
    go_enter Try.func50, Try.ntmps50
    go_wp2
    go_ret
    exact ⟨ret_int R.out.symm, rfl⟩
theorem rpairs_take (l : List UInt8) : ∀ k, l.length = 2 * k + 1 → rpairsL (l.take (2 * k)) = rpairsL l := by
  intro k hk
  induction k generalizing l with
  | zero => match l, hk with
    | [x], _ => rfl
  | succ k ih => match l, hk with
    | a :: b :: r, hk => 
      have := ih r (by simp at hk; omega)
      rw [show 2 * (k + 1) = 2 * k + 1 + 1 from by omega, List.take_succ_cons, List.take_succ_cons]
      simp only [rpairsL, this]
theorem runhex_any (s : ByteArray) (w : World) (hs : s.size ≤ 50000) :
    Calls Try.prog 27 #[.string s] w fun e w' => e = .returned (.tuple #[.string (unhexS s), .int .i64 (unhexE s)]) ∧ Below w.heap.size w w' := by
  obtain ⟨i0, hi, hz0, hz1, hz2⟩ := info_parts Try.rinfo_u8
  go_enter Try.func27, Try.ntmps27
  go_wp2_with fail
  go_loopw [4, 5] (fun v i wr => ∃ k : Nat, 2 * k ≤ s.size ∧ i = .int .i64 (2 * (k : Int)) ∧ wr.ownsRow w.heap.size 5 1 v k ((rpairsL (s.data.toList.take (2 * k))).map bc) ∧ Below w.heap.size w wr) (fun _ i _ => s.size - (intOf i).toNat)
  case atStart => exact ⟨0, by omega, rfl, World.ownsRow_nil _ _ _ _, Below.refl _ _⟩
  case round =>
    obtain ⟨k, hk, rfl, hown, hb⟩ := hrel
    by_cases hlt : 2 * k + 1 < s.size
    · have q1 : 2 * (k : Int) < (s.size : Int) := by omega
      have q2 : 2 * (k : Int) + 1 < (s.size : Int) := by omega
      have q0 : 2 * k < s.size := by omega
      obtain ⟨a, ha⟩ : ∃ a, a = s[2 * k]'q0 := ⟨_, rfl⟩
      obtain ⟨b, hb'⟩ : ∃ b, b = s[2 * k + 1]'hlt := ⟨_, rfl⟩
      have hlen : s.data.toList.length = s.size := Array.length_toList
      have TT := Lib.hid (take_two s.data.toList k (by omega))
      have ea : s.data.toList[2 * k]'(by omega) = a := ha.symm
      have eb : s.data.toList[2 * k + 1]'(by omega) = b := hb'.symm
      have TS := Lib.hid (TT.out.1.trans (by rw [ea, eb] : _ = s.data.toList.take (2 * k) ++ [a, b]))
      have PS := Lib.hid (pairs_snoc (s.data.toList.take (2 * k)) k a b (by rw [List.length_take]; omega))
      obtain ⟨a1, a2⟩ := rv_bd a
      obtain ⟨b1, b2⟩ := rv_bd b
      have ha' : s[2 * k]'q0 = a := ha.symm
      have hb'' : s[2 * k + 1]'hlt = b := hb'.symm
      clear ea eb ha hb' TT hlen
      have sum1 : IntKind.i64.wrap (2 * (k : Int) + 1) = 2 * k + 1 := IntWalk.i64_in _ (by omega)
      have nat1 : (2 * (k : Int) + 1).toNat = 2 * k + 1 := by omega
      have nat0 : (2 * (k : Int)).toNat = 2 * k := by omega
      have o2 : IntKind.u8.wrap (16 * rv a) = 16 * rv a := by rw [IntKind.wrap_u8']; omega
      have o3 : IntKind.u8.wrap (16 * rv a + rv b) = 16 * rv a + rv b := by rw [IntKind.wrap_u8']; omega
      go_wp2_with fail
      go_region_held3 (fun _ => True) (first | trivial | go_keep) (first
        | (go_at_call 50; refine (value_any _ _).mono ?_; rintro e w' ⟨rfl, rfl⟩)
        | (refine step_append_own (by rfl) (.tmp 13) (.tmp 25) 61 (by rfl) w.heap.size 5 i0 (.int .u8 0) 1 1 Try.underlying61 hi hz0 hz1 hz2 rfl (by decide) _ k _ (by simp [Act.eval]; rfl) (by exact hown.alloc _) ⟨wr.heap.size, 0, none⟩ 1 1 [.int .u8 (16 * rv a + rv b)] (by simp [Act.eval]) rfl (by exact news_new wr #[_] _) (by simp [Value.oneCell']) (by unfold maxLen; omega) (by omega) (by have := hb.size; simp; omega) ?_; intro v2 w2 hown2 hgrow2))
      all_goals
        go_wp2_with fail
        go_roundw
        case rel =>
          refine ⟨k + 1, by omega, congrArg (Value.int .i64) (by omega), ?_, ((hb.alloc hb.size _).drew).grown hgrow2 (by have := hb.size; simp; omega) (fun j hj => (hown.lt j hj).1)⟩
          rw [TS.out, PS.out.2.1, List.map_append, List.map_cons, List.map_nil, bc_ofI _ (by omega) (by omega)]
          exact hown2
        case measure => simp [intOf]; omega
    · have hlen : s.data.toList.length = s.size := Array.length_toList
      have hL : rpairsL (s.data.toList.take (2 * k)) = rpairsL s.data.toList := by
        by_cases he : s.size = 2 * k
        · rw [List.take_of_length_le (by omega)]
        · exact rpairs_take _ k (by omega)
      rw [hL] at hown
      have ks := own_string (P := Try.prog) (t := 61) (ty := 9) Try.underlying61 Try.underlying5 Try.underlying9 hown
      have hrl : (⟨(rpairsL s.data.toList).toArray⟩ : ByteArray).size ≤ 100000 := by
        have h1 := hown.1
        show (rpairsL s.data.toList).toArray.size ≤ _
        simp at h1 ⊢
        omega
      generalize hR : rpairsL s.data.toList = R at *
      have HR := Lib.hid hR
      clear hL hR
      cases hok : okP s.data.toList
      · have q : (hexL R == s.toList) = false := by
          rw [ByteArray.toList_eq, beq_eq_false_iff_ne]
          intro h
          have h2 := (okP_hex R).1
          rw [h, hok] at h2
          exact absurd h2 (by decide)
        have E1 := Lib.hid (by simp only [unhexS, hok]; rfl : unhexS s = ⟨#[]⟩)
        have E2 := Lib.hid (by simp only [unhexE, hok]; rfl : unhexE s = 6)
        clear hok
        go_wp2_with (go_at_call 51; refine (rhex_any _ _ hrl).mono ?_; rintro e w' ⟨rfl, hb2⟩)
        go_ret2
        exact ⟨ret_si E1.out.symm E2.out.symm, gr_step hb hb2⟩
      · have q : (hexL R == s.toList) = true := by
          rw [ByteArray.toList_eq, beq_iff_eq, ← HR.out, (okP_yes _ hok).1]
          exact (okP_yes _ hok).2
        have E1 := Lib.hid (by simp only [unhexS, hok, ← HR.out, (okP_yes _ hok).1]; rfl : unhexS s = ⟨R.toArray⟩)
        have E2 := Lib.hid (by simp only [unhexE, hok]; rfl : unhexE s = 0)
        clear hok
        go_wp2_with (go_at_call 51; refine (rhex_any _ _ hrl).mono ?_; rintro e w' ⟨rfl, hb2⟩; have ks2 := own_string (P := Try.prog) (t := 61) (ty := 9) Try.underlying61 Try.underlying5 Try.underlying9 (owns_below hown hb2))
        go_ret2
        exact ⟨ret_si E1.out.symm E2.out.symm, gr_step hb hb2⟩
end Go.Proofs.Ythalmomheecpcaa
