/- pcode.Decode (layer 21): its contract. Strings in texts of whole rows: index, slice, sum, length. No program in it. The reference's Get (layer 1), for other seats: its contract. pcode: bytes of a number and of its parts (layer 21). The reference's Encode, Number, Decode (layer 21): their contracts. -/
import Derived.Lib.Strings
import Derived.IntWalk
import Derived.Test.YtigfoophimjgdaaK22
import Derived.Test.YtigfoophimjgdaaK20
import Derived.Test.YtigfoophimjgdaaK01
namespace Go.Proofs.Ytigfoophimjgdaa
set_option maxRecDepth 20000
set_option linter.unusedSimpArgs false
set_option linter.unusedVariables false
open Go.RowKit Go.Sort
theorem dec_parts (N : Nat) : ∃ (y x : Nat) (ok b : Bool), y = N % (9223372036854775808 * B64 ^ 3) ∧ y ≤ N ∧ x = rootN iV (sqR y) ∧ okN iV (sqR y) = ok ∧ decB N = b ∧ decE N = (if y < PN then (if ok = true then (if b = true ∧ x = 0 then 22 else 0) else 22) else 2) ∧ decX N = (if b = true then (0 + PN - x) % PN else x) ∧ decP N = (if decE N = 0 then (fz (decX N), fz y) else zeroE) :=
  ⟨decY N, rootN iV (sqR (decY N)), okN iV (sqR (decY N)), decB N, rfl, Nat.mod_le _ _, rfl, rfl, rfl, by unfold decE; exact Eq.refl _, by unfold decX; exact Eq.refl _, by unfold decP; exact Eq.refl _⟩
/-- What Decode answers of 32 bytes. -/
theorem decode_any (s : ByteArray) (hs : s.size = 32) : ∃ a : N4, Ok4 a (decP (leN s.data.toList)) ∧ ∀ w, Calls Try.prog 13 #[.string s] w fun E w' => E = .returned (.tuple #[pv4 a, .int .i64 (decE (leN s.data.toList) : Int)]) ∧ Below w.heap.size w w' := by
  have hNB := leN_B s hs
  obtain ⟨N, hN⟩ : ∃ N, leN s.data.toList = N := ⟨_, rfl⟩
  rw [hN] at hNB ⊢
  obtain ⟨b0, b1⟩ := decB_bit N
  obtain ⟨y, x, ok, b, ey, hyN, ex, hok, hb, hE, hX, hP⟩ := dec_parts N
  have hmB : y < B64 ^ 4 := Nat.lt_of_le_of_lt hyN hNB
  have hxl : x < PN := by rw [ex]; exact rootN_below _
  by_cases hm : y < PN
  · rw [if_pos hm] at hE
    cases ok
    · rw [if_neg (by decide)] at hE
      rw [hE, if_neg (by decide)] at hP
      rw [hE, hP]
      exact ⟨zero4, ok4_zero, fun w => dec_no s hs N y _ x hN ey rfl hm ex hok w⟩
    · rw [if_pos rfl] at hE
      have hon : On (fz x, fz y) := by rw [ex]; exact root_on y hok
      have hat : Ok4 (x, y, 1, x * y % PN) (fz x, fz y) := ok4_at x y _ hxl hm hon rfl rfl
      cases b
      · rw [if_neg (by simp)] at hE
        rw [if_neg (by decide)] at hX
        rw [hE, if_pos rfl, hX] at hP
        rw [hE, hP]
        exact ⟨_, hat, fun w => dec_yes0 s hs N y x hN ey (b0 hb) hm ex hok w⟩
      · by_cases h0 : x = 0
        · rw [if_pos ⟨rfl, h0⟩] at hE
          rw [hE, if_neg (by decide)] at hP
          rw [hE, hP]
          exact ⟨zero4, ok4_zero, fun w => dec_bad s hs N y x hN ey (b1 hb) hm ex hok h0 w⟩
        · rw [if_neg (fun h => h0 h.2)] at hE
          rw [if_pos rfl] at hX
          rw [hE, if_pos rfl, hX, fz_negm x hxl] at hP
          have hn : Ok4 (neg4 (x, y, 1, x * y % PN)) (-fz x, fz y) := ok4_neg hat
          rw [hE, hP]
          exact ⟨_, hn, fun w => dec_yes1 s hs N y x hN ey (b1 hb) hm ex hok h0 w⟩
  · rw [if_neg hm] at hE
    rw [hE, if_neg (by decide)] at hP
    rw [hE, hP]
    exact ⟨zero4, ok4_zero, fun w => dec_range s hs N y _ hN ey hmB rfl hm w⟩
end Go.Proofs.Ytigfoophimjgdaa
namespace Go.Proofs.Ytigfoophimjgdaa
set_option maxRecDepth 20000
set_option linter.unusedSimpArgs false
set_option linter.unusedVariables false
open Go.RowKit Go.Sort
section
variable {P : Program} {o : Oper} {A : Act}
theorem run_idx_str {ty : TypeId} {x y : Operand} {S : ByteArray} {i : Nat} {c : UInt8} {k : IntKind} (W : World) (ho : o.op = .index ty x y) (hx : A.eval x = .string S) (hy : A.eval y = .int k (i : Int)) (hu : P.underlying ty = some .string) (hc : S[i]? = some c) : (execOp A.eval o).run P W = .ok (.value (.int .u8 (c.toNat : Int))) W := by
  unfold execOp
  simp [ho, hx, hy, Instr.index, asIntOf, Sem.run_bind, run_underlying hu W, hc]
theorem run_slc_str {ty : TypeId} {x : Operand} {lo hi mx : Option Operand} {S : ByteArray} {v : Value} (W : World) (ho : o.op = .slice ty x lo hi mx) (hx : A.eval x = .string S) (h : (Instr.sliceAt ty (.string S) (lo.map A.eval) (hi.map A.eval) (mx.map A.eval)).run P W = .ok v W) : (execOp A.eval o).run P W = .ok (.value v) W := by
  unfold execOp
  simp only [ho, hx, Sem.run_bind, h, Result.andThen_ok]
  rfl
theorem slc_str {ty : TypeId} {S : ByteArray} {i j : Nat} {k k' : IntKind} (W : World) (hu : P.underlying ty = some .string) (hij : i ≤ j) (hj : j ≤ S.size) : (Instr.sliceAt ty (.string S) (some (.int k (i : Int))) (some (.int k' (j : Int))) none).run P W = .ok (.string (S.extract i j)) W := by
  have h1 : ((i : Int) ≤ (j : Int)) := by omega
  have h2 : ((j : Int) ≤ (S.size : Int)) := by omega
  simp [Instr.sliceAt, Sem.run_bind, run_underlying hu W, Instr.slice, Instr.sliceBounds, Instr.sliceBound, asIntOf, go_sem, hij, hj]
theorem slc_str_hi {ty : TypeId} {S : ByteArray} {j : Nat} {k' : IntKind} (W : World) (hu : P.underlying ty = some .string) (hj : j ≤ S.size) : (Instr.sliceAt ty (.string S) none (some (.int k' (j : Int))) none).run P W = .ok (.string (S.extract 0 j)) W := by
  simp [Instr.sliceAt, Sem.run_bind, run_underlying hu W, Instr.slice, Instr.sliceBounds, Instr.sliceBound, asIntOf, go_sem, hj]
theorem slc_str_lo {ty : TypeId} {S : ByteArray} {i : Nat} {k : IntKind} (W : World) (hu : P.underlying ty = some .string) (hi : i ≤ S.size) : (Instr.sliceAt ty (.string S) (some (.int k (i : Int))) none none).run P W = .ok (.string (S.extract i S.size)) W := by
  simp [Instr.sliceAt, Sem.run_bind, run_underlying hu W, Instr.slice, Instr.sliceBounds, Instr.sliceBound, asIntOf, go_sem, hi]
theorem inw_readS {ops : Array Oper} {w0 : World} {Q : Act → World → Prop} {o : Oper} {rest : List Oper} {k : Nat} {A : Act} {Ps : List PkW} {ns : List Nat} (j : Nat) (t : Tmp) {n : Nat} {L : Array Value} {T : TypeId} {v : Value} (hf : Ps.filter (waits ops o) = [(j, fun u w' => ∃ b, u = .slice (some ⟨b, 0, none⟩) n n ∧ w'.heap[b]? = some (.cells L T (0, 0)))]) (hd : dstOf ops j = some t)
    (hw : ∀ b, Region.wanted o (yielded ops (A.put (some t) (.slice (some ⟨b, 0, none⟩) n n)).tmps) = true)
    (h : ∀ b W, W.heap[b]? = some (.cells L T (0, 0)) → (execOp (A.put (some t) (.slice (some ⟨b, 0, none⟩) n n)).eval o).run P W = .ok (.value v) W)
    (hr : wpInw P ops w0 Q rest (k + 1) (A.put o.dst v) Ps ns) : wpInw P ops w0 Q (o :: rest) k A Ps ns :=
  .inl ⟨v, fun d os => by
    rw [hf]
    rintro u ⟨b, rfl, hb⟩
    show opOK P ops o _ _ (A.put (dstOf ops j) (.slice (some ⟨b, 0, none⟩) n n))
    rw [hd]
    unfold opOK
    rw [if_pos (hw b), h b _ hb]
    exact ⟨rfl, Below.refl _ _⟩, hr⟩
theorem run_len_str {x : Operand} {tys : Array TypeId} {S : ByteArray} {ty : TypeId} (W : World) (ho : o.op = .call { callee := .builtin .len, args := #[x], argTypes := tys }) (hx : #[x].map A.eval = #[.string S]) (ht : tys[0]? = some ty) (hu : P.underlying ty = some .string) : (execOp A.eval o).run P W = .ok (.value (.int .i64 (S.size : Int))) W := by
  have hx' : A.eval x = .string S := by simpa using hx
  unfold execOp
  simp [ho, resolve, invoke, builtin, hx', Builtin.len_, ht, Sem.run_bind, run_underlying hu W, goInt]
/-- A string's sum. -/
theorem add_str {ty : TypeId} {S T : ByteArray} (x y : Operand) (W : World) (hz : S.size + T.size ≤ 9223372036854775807) : (do eqGuard .add ty x y (.string S) (.string T); binOp .add ty (.string S) (.string T) : Sem Value).run P W = .ok (.string (S ++ T)) W := by
  simp [eqGuard, binOp, Op.stringOp]
  omega
end
end Go.Proofs.Ytigfoophimjgdaa
namespace Go.Proofs.Ytigfoophimjgdaa
set_option maxRecDepth 20000
set_option linter.unusedSimpArgs false
set_option linter.unusedVariables false
open Go.RowKit
theorem take_byte1 (s : ByteArray) (k : Nat) (h : k < s.size) : s.data.toList.take (k + 1) = s.data.toList.take k ++ [s[k]] := by
  rw [List.take_succ_eq_append_getElem (by simpa using h)]; rfl
/-- The number of bytes, the highest one first. -/
def beN (l : List UInt8) : Nat := l.foldl (fun n b => n * 256 + b.toNat) 0
theorem beN_snoc (l : List UInt8) (b : UInt8) : beN (l ++ [b]) = beN l * 256 + b.toNat := by simp [beN]
theorem beN_lt : ∀ (k : Nat) (l : List UInt8), beN (l.take k) < 256 ^ k
  | 0, l => by simp [beN]
  | k + 1, l => by
    have ih := beN_lt k l
    by_cases h : k < l.length
    · rw [List.take_succ_eq_append_getElem h, beN_snoc, Nat.pow_succ]
      have := (l[k]).toNat_lt
      omega
    · rw [List.take_of_length_le (by omega)]
      rw [List.take_of_length_le (by omega)] at ih
      rw [Nat.pow_succ]
      omega
set_option maxHeartbeats 1000000 in
theorem rget_any (s : ByteArray) (w : World) (hs : s.size ≤ 8) :
    Calls Try.prog 97 #[.string s] w fun e w' => e = .returned (.int .u64 (beN s.data.toList : Int)) ∧ w = w' := by
  have hsl := Lib.size_eq s
  go_enter Try.func97, Try.ntmps97
  go_wp2_with fail
  go_loop [3, 4] (fun v i => ∃ k : Nat, k ≤ s.size ∧ v = .int .u64 (beN (s.data.toList.take k) : Int) ∧ i = .int .i64 (k : Int)) (fun _ i => s.size - (Go.RowKit.intOf i).toNat)
  case atStart => exact ⟨0, by omega, rfl, rfl⟩
  case round =>
    obtain ⟨k, hk, rfl, rfl⟩ := hrel
    by_cases hlt : k < s.size
    · have p1 : (k : Int) < (s.size : Int) := by omega
      have h1 := beN_lt k s.data.toList
      have h2 : beN (s.data.toList.take k) < 256 ^ 7 := Nat.lt_of_lt_of_le h1 (Nat.pow_le_pow_right (by decide) (by omega))
      have h3 : beN (s.data.toList.take (k + 1)) = beN (s.data.toList.take k) * 256 + (s[k]'hlt).toNat := by
        rw [take_byte1 s k hlt, beN_snoc]
      have h4 := (s[k]'hlt).toNat_lt
      obtain ⟨A, hA⟩ : ∃ A, beN (s.data.toList.take k) = A := ⟨_, rfl⟩
      obtain ⟨c, hc⟩ : ∃ c, (s[k]'hlt).toNat = c := ⟨_, rfl⟩
      rw [hA, hc] at h3
      rw [hA] at h2 ⊢
      have hc' : ((s[k]'hlt).toNat : Int) = (c : Int) := by rw [hc]
      rw [hc] at h4
      have H3 := Lib.hid h3
      have o1 : IntKind.u64.wrap ((A : Int) * 256) = (A : Int) * 256 := IntWalk.u64_in _ (by omega)
      have o2 : IntKind.u64.wrap ((A : Int) * 256 + (c : Int)) = (A : Int) * 256 + (c : Int) := IntWalk.u64_in _ (by omega)
      have o0 : IntKind.u64.wrap (c : Int) = (c : Int) := IntWalk.u64_in _ (by omega)
      clear hA hc h3 h1 h2 h4 hsl
      go_wp2_with fail
      go_round
      case rel => exact ⟨k + 1, by omega, by rw [H3.out]; exact congrArg (Value.int .u64) (by omega), congrArg (Value.int .i64) (by omega)⟩
      case measure =>
        simp [Go.RowKit.intOf]
        omega
    · obtain rfl : k = s.size := by omega
      have p1 : ¬ (s.size : Int) < (s.size : Int) := by omega
      have hall : s.data.toList.take s.size = s.data.toList := List.take_of_length_le (by omega)
      rw [hall]
      clear hall hsl
      go_wp2_with fail
      go_ret
      exact ⟨rfl, rfl⟩
end Go.Proofs.Ytigfoophimjgdaa
namespace Go.Proofs.Ytigfoophimjgdaa
set_option maxRecDepth 20000
set_option linter.unusedSimpArgs false
set_option linter.unusedVariables false
open Go.RowKit Go.Sort
theorem byL_at (n i : Nat) (h : i < 32) : (⟨(byL n).toArray⟩ : ByteArray)[i]? = some (UInt8.ofNat (n / 256 ^ i % 256)) := by
  show (byL n).toArray[i]? = _
  rw [List.getElem?_toArray, byL, List.getElem?_map, List.getElem?_range h]
  rfl
theorem u8_nat' (l : Nat) (h : l < 256) : ((UInt8.ofNat l).toNat : Int) = (l : Int) := by rw [UInt8.toNat_ofNat_of_lt' h]
theorem top_low (n : Nat) (h : n < PN) : n / 256 ^ 31 % 256 < 128 := by
  have h1 : n < 256 ^ 31 * 128 := Nat.lt_trans h (by decide +kernel)
  exact Nat.lt_of_le_of_lt (Nat.mod_le _ _) (Nat.div_lt_of_lt_mul h1)
theorem byte_high (n i : Nat) (h : i < 31) : (n + HB) / 256 ^ i % 256 = n / 256 ^ i % 256 := by
  have e : HB = (128 * 256 ^ (30 - i) * 256) * 256 ^ i := by
    have e1 : 256 ^ 31 = 256 ^ (30 - i) * 256 * 256 ^ i := by
      rw [← Nat.pow_succ, ← Nat.pow_add]
      congr 1
      omega
    rw [show HB = 128 * 256 ^ 31 by decide +kernel, e1]
    simp only [Nat.mul_assoc]
  rw [e, Nat.add_mul_div_right _ _ (Nat.pow_pos (by decide)), Nat.add_mul_mod_self_right]
theorem byte_top (n : Nat) (h : n < PN) : (n + HB) / 256 ^ 31 % 256 = n / 256 ^ 31 % 256 + 128 := by
  have h1 := top_low n h
  have h0 : n / 256 ^ 31 < 128 := Nat.div_lt_of_lt_mul (Nat.lt_trans h (by decide +kernel))
  rw [show HB = 128 * 256 ^ 31 by decide +kernel, Nat.add_mul_div_right _ _ (Nat.pow_pos (by decide))]
  obtain ⟨q, hq⟩ : ∃ q, n / 256 ^ 31 = q := ⟨_, rfl⟩
  rw [hq] at h0 ⊢
  omega
theorem text_cut (n m l : Nat) (hi : ∀ i, i < 31 → m / 256 ^ i % 256 = n / 256 ^ i % 256) (ht : m / 256 ^ 31 % 256 = l) : ((⟨(byL n).toArray⟩ : ByteArray).extract 0 31) ++ (⟨#[UInt8.ofNat l]⟩ : ByteArray) = ⟨(byL m).toArray⟩ := by
  have h1 : byL m = (byL n).take 31 ++ [UInt8.ofNat l] := by
    unfold byL
    rw [show List.range 32 = List.range 31 ++ [31] from List.range_succ, List.map_append, List.map_append, List.take_left' (by simp)]
    congr 1
    · exact List.map_congr_left fun i hi' => by rw [hi i (List.mem_range.1 hi')]
    · simp [ht]
  rw [h1]
  refine ByteArray.ext ?_
  rw [ByteArray.data_append, ByteArray.data_extract]
  simp
theorem enc_text (x n : Nat) (h : n < PN) : (x % 2 = 1 → ((⟨(byL n).toArray⟩ : ByteArray).extract 0 31) ++ (⟨#[UInt8.ofNat (n / 256 ^ 31 % 256 + 128)]⟩ : ByteArray) = ⟨(byL (encN x n)).toArray⟩) ∧ (¬ x % 2 = 1 → ((⟨(byL n).toArray⟩ : ByteArray).extract 0 31) ++ (⟨#[UInt8.ofNat (n / 256 ^ 31 % 256)]⟩ : ByteArray) = ⟨(byL (encN x n)).toArray⟩) := by
  unfold encN
  rw [HB_is.1]
  constructor
  · intro hx
    rw [if_pos hx]
    exact text_cut _ _ _ (fun i hi => byte_high n i hi) (byte_top n h)
  · intro hx
    rw [if_neg hx]
    exact text_cut _ _ _ (fun _ _ => rfl) rfl
/-- A word of the number of 32 bytes. -/
theorem beN_rev : ∀ l : List UInt8, beN l.reverse = leN l
  | [] => rfl
  | b :: t => by rw [List.reverse_cons, beN_snoc, beN_rev t, leN]; omega
theorem leN_take : ∀ (l : List UInt8) (k : Nat), leN (l.take k) = leN l % 256 ^ k
  | [], k => by simp [leN]
  | b :: t, 0 => by rw [List.take_zero, Nat.pow_zero, Nat.mod_one]; rfl
  | b :: t, k + 1 => by
    have h2 := b.toNat_lt
    rw [List.take_succ_cons, leN, leN, leN_take t k, Nat.pow_succ, Nat.mul_comm (256 ^ k) 256, Nat.mod_mul]
    have h1 : (b.toNat + 256 * leN t) % 256 = b.toNat := by omega
    have h3 : (b.toNat + 256 * leN t) / 256 = leN t := by omega
    rw [h1, h3]
theorem leN_drop : ∀ (l : List UInt8) (k : Nat), leN (l.drop k) = leN l / 256 ^ k
  | l, 0 => by rw [List.drop_zero, Nat.pow_zero, Nat.div_one]
  | [], k + 1 => by simp [leN]
  | b :: t, k + 1 => by
    have h2 := b.toNat_lt
    rw [List.drop_succ_cons, leN_drop t k, leN, Nat.pow_succ, Nat.mul_comm (256 ^ k) 256, ← Nat.div_div_eq_div_mul]
    congr 1
    omega
theorem word_of (s : ByteArray) (i : Nat) : beN (s.extract (8 * i) (8 * i + 8)).data.toList.reverse = wd (leN s.data.toList) i := by
  rw [beN_rev, ByteArray.data_extract, Array.toList_extract, List.extract_eq_take_drop, leN_take, leN_drop]
  unfold wd
  rw [show 8 * i + 8 - 8 * i = 8 by omega, show (256 : Nat) ^ 8 = B64 by decide, show B64 = 256 ^ 8 by decide, ← Nat.pow_mul]
theorem rturn8 (s : ByteArray) (i : Nat) (hs : s.size = 32) (hi : i < 4) (w : World) : Calls Try.prog 93 #[.string (s.extract (8 * i) (8 * i + 8))] w fun e w' => e = .returned (.string ⟨(s.extract (8 * i) (8 * i + 8)).data.toList.reverse.toArray⟩) ∧ Below w.heap.size w w' := rturn_any _ w (by
  rw [ByteArray.size_extract]
  omega)
theorem rget8 (s : ByteArray) (i v : Nat) (hs : s.size = 32) (hi : i < 4) (hv : wd (leN s.data.toList) i = v) (w : World) : Calls Try.prog 97 #[.string ⟨(s.extract (8 * i) (8 * i + 8)).data.toList.reverse.toArray⟩] w fun e w' => e = .returned (.int .u64 (v : Int)) ∧ Below w.heap.size w w' := by
  have hz : (⟨(s.extract (8 * i) (8 * i + 8)).data.toList.reverse.toArray⟩ : ByteArray).size ≤ 8 := by
    show (s.extract (8 * i) (8 * i + 8)).data.toList.reverse.toArray.size ≤ 8
    rw [List.size_toArray, List.length_reverse, Array.length_toList]
    show (s.extract (8 * i) (8 * i + 8)).size ≤ 8
    rw [ByteArray.size_extract]
    omega
  refine (rget_any _ w hz).mono ?_
  rintro e w' ⟨rfl, rfl⟩
  refine ⟨?_, Below.refl _ _⟩
  show Ending.returned (.int .u64 ((beN (s.extract (8 * i) (8 * i + 8)).data.toList.reverse : Nat) : Int)) = _
  rw [word_of, hv]
end Go.Proofs.Ytigfoophimjgdaa
namespace Go.Proofs.Ytigfoophimjgdaa
set_option maxRecDepth 20000
set_option linter.unusedSimpArgs false
set_option linter.unusedVariables false
open Go.RowKit Go.Sort
theorem bin_rem_u64 (a : Nat) (x y : Operand) (W : World) : (do eqGuard .rem 23 x y (.int .u64 (a : Int)) (.int .u64 2); binOp .rem 23 (.int .u64 (a : Int)) (.int .u64 2) : Sem Value).run Try.prog W = .ok (.int .u64 ((a % 2 : Nat) : Int)) W := by
  have e : ((a : Int).tmod 2) = ((a % 2 : Nat) : Int) := by rw [Int.tmod_eq_emod_of_nonneg (by omega)]; omega
  have e2 : IntKind.u64.wrap ((a % 2 : Nat) : Int) = ((a % 2 : Nat) : Int) := IntWalk.u64_in _ (by omega)
  have e3 : (a : Int) % 2 = ((a % 2 : Nat) : Int) := by omega
  obtain ⟨m, hm⟩ : ∃ m, a % 2 = m := ⟨_, rfl⟩
  rw [hm] at e e2 e3 ⊢
  go_simp
theorem bin_eql_u64 (b : Nat) (x y : Operand) (W : World) : (do eqGuard .eql 23 x y (.int .u64 (b : Int)) (.int .u64 1); binOp .eql 23 (.int .u64 (b : Int)) (.int .u64 1) : Sem Value).run Try.prog W = .ok (.bool (decide (b = 1))) W := by
  have e : ((b : Int) == 1) = decide (b = 1) := by
    rw [Bool.eq_iff_iff]
    simp
    omega
  go_simp
theorem bin_add_u8 (b : Nat) (h : b < 128) (x y : Operand) (W : World) : (do eqGuard .add 5 x y (.int .u8 (b : Int)) (.int .u8 128); binOp .add 5 (.int .u8 (b : Int)) (.int .u8 128) : Sem Value).run Try.prog W = .ok (.int .u8 ((b + 128 : Nat) : Int)) W := by
  have e2 : IntKind.u8.wrap ((b : Int) + 128) = ((b + 128 : Nat) : Int) := by rw [IntWalk.u8_in _ (by omega)]; omega
  obtain ⟨m, hm⟩ : ∃ m, b + 128 = m := ⟨_, rfl⟩
  rw [hm] at e2 ⊢
  go_simp
theorem ix_Nu0 (b : Nat) (W : World) : (Instr.indexAt 24 (.pointer (some ⟨b, 0, none⟩)) (.int .i64 0)).run Try.prog W = .ok (.pointer (some ⟨b, 0, none⟩)) W := by
  go_simp
theorem ix_Nu1 (b : Nat) (W : World) : (Instr.indexAt 24 (.pointer (some ⟨b, 0, none⟩)) (.int .i64 1)).run Try.prog W = .ok (.pointer (some ⟨b, 1, none⟩)) W := by
  go_simp
theorem ix_Nu2 (b : Nat) (W : World) : (Instr.indexAt 24 (.pointer (some ⟨b, 0, none⟩)) (.int .i64 2)).run Try.prog W = .ok (.pointer (some ⟨b, 2, none⟩)) W := by
  go_simp
theorem ix_Nu3 (b : Nat) (W : World) : (Instr.indexAt 24 (.pointer (some ⟨b, 0, none⟩)) (.int .i64 3)).run Try.prog W = .ok (.pointer (some ⟨b, 3, none⟩)) W := by
  go_simp
theorem bs_u8 (c : Nat) (W : World) : (Instr.buildSlice 94 1 #[(0, .int .u8 (c : Int))]).run Try.prog W = .ok (.slice (some ⟨W.heap.size, 0, none⟩) 1 1) (W.alloc (.cells #[.int .u8 (c : Int)] 5 (0, 0))) := by
  go_simp
theorem bytes_text1 (c : Nat) (hc : c < 256) (b : Nat) (W : World) (hb : W.heap[b]? = some (.cells #[.int .u8 (c : Int)] 5 (0, 0))) : (convert 94 9 (.slice (some ⟨b, 0, none⟩) 1 1)).run Try.prog W = .ok (.string ⟨#[UInt8.ofNat c]⟩) W := by
  have h := run_convert_bytes_back (P := Try.prog) W 94 9 5 ⟨b, 0, none⟩ 1 [UInt8.ofNat c] Try.underlying94 Try.underlying5 Try.underlying9 (fun j hj => by
    have j0 : j = 0 := by simpa using hj
    subst j0
    have hadd : (⟨b, 0, none⟩ : Addr).add 0 = ⟨b, 0, none⟩ := by unfold Addr.add; split <;> simp_all
    rw [hadd, cell_of_row W b 0 _ _ _ hb]
    show _ = some (Value.int .u8 ((UInt8.ofNat c).toNat : Int))
    rw [UInt8.toNat_ofNat_of_lt' hc]
    rfl)
  exact h
theorem cut_size (n l : Nat) : ((⟨(byL n).toArray⟩ : ByteArray).extract 0 31).size + (⟨#[UInt8.ofNat l]⟩ : ByteArray).size = 32 := by
  rw [ByteArray.size_extract, byL_size]
  rfl
set_option maxRecDepth 20000 in
set_option maxHeartbeats 8000000 in
theorem rencode_any {b : N3} {p : Pt} (hb : Ok3 b p) (w : World) : Calls Try.prog 14 #[pv3 b] w fun E w' => E = .returned (.string ⟨(byL (encN p.1.val p.2.val)).toArray⟩) ∧ Below w.heap.size w w' := by
  have HMIX := Lib.hid (show Try.prog.follows .mixedOrders = true by kernel_rfl)
  go_enter Try.func14, Try.ntmps14
  have hM0 := Mem.start w
  (go_step; go_step; refine wp_region_lit ?_)
  refine wl_new hM0 (f := fun b => .pointer (some ⟨b, 0, none⟩)) (ob := .cells ((rpL b.1 b.2.1 b.2.2).toArray) 32 (0, 0)) (fun W => run_box_of rfl rfl (bx_Rp _ _ _ W)) rfl fun b1 W1 hM1 => ?_
  simp only [Act.put, List.setIfInBounds_toArray, List.set_cons_zero, List.set_cons_succ]
  refine wl_pure (v := .string ⟨#[]⟩) (fun _ => rfl) rfl ?_
  simp only [Act.put, List.setIfInBounds_toArray, List.set_cons_zero, List.set_cons_succ]
  refine wpList_nil ?_
  (go_step; go_step; go_step; refine wp_region_lit ?_)
  refine wl_row hM1 0 (v := pv3 b) rfl rfl rfl rfl rowRp rfl ?_
  simp only [Act.put, List.setIfInBounds_toArray, List.set_cons_zero, List.set_cons_succ]
  obtain ⟨v1, ev1⟩ : ∃ x, x = p.1.val := ⟨_, rfl⟩
  have pv1 : v1 < PN := by rw [ev1]; exact Fin.isLt _
  obtain ⟨v2, ev2⟩ : ∃ x, x = p.2.val := ⟨_, rfl⟩
  have pv2 : v2 < PN := by rw [ev2]; exact Fin.isLt _
  have KX14 := Lib.hid (fun W => rxy3 hb W)
  simp only [← ev1, ← ev2] at KX14
  refine wl_call hM1 (args := #[pv3 b]) (v := .tuple #[numV v1, numV v2]) (fun W => run_call_fn W (enters_of Try.func32 rfl rfl) rfl (by simp [Act.eval])) (KX14.out W1) rfl fun W2 hM2 => ?_
  simp only [Act.put, List.setIfInBounds_toArray, List.set_cons_zero, List.set_cons_succ]
  refine wl_pure (v := .tuple #[numV v1, numV v2]) (fun _ => rfl) rfl ?_
  simp only [Act.put, List.setIfInBounds_toArray, List.set_cons_zero, List.set_cons_succ]
  refine wl_pure (v := numV v1) (fun _ => rfl) rfl ?_
  simp only [Act.put, List.setIfInBounds_toArray, List.set_cons_zero, List.set_cons_succ]
  refine wl_pure (v := numV v2) (fun _ => rfl) rfl ?_
  simp only [Act.put, List.setIfInBounds_toArray, List.set_cons_zero, List.set_cons_succ]
  refine wl_new hM2 (f := fun b => .pointer (some ⟨b, 0, none⟩)) (ob := .cells z4 24 (0, 0)) (fun W => run_alloc_of rfl (al_Nu W)) rfl fun b2 W3 hM3 => ?_
  simp only [Act.put, List.setIfInBounds_toArray, List.set_cons_zero, List.set_cons_succ]
  refine wl_new hM3 (f := fun b => .pointer (some ⟨b, 0, none⟩)) (ob := .cells z4 24 (0, 0)) (fun W => run_alloc_of rfl (al_Nu W)) rfl fun b3 W4 hM4 => ?_
  simp only [Act.put, List.setIfInBounds_toArray, List.set_cons_zero, List.set_cons_succ]
  refine wl_set hM4 1 (cs := (elR v1)) rfl rfl rfl rfl rowNu rfl (one_el v1) rfl rfl fun W5 hM5 => ?_
  simp only [List.set_cons_zero, List.set_cons_succ] at hM5
  refine wl_set hM5 0 (cs := (elR v2)) rfl rfl rfl rfl rowNu rfl (one_el v2) rfl rfl fun W6 hM6 => ?_
  simp only [List.set_cons_zero, List.set_cons_succ] at hM6
  refine wpList_nil ?_
  (go_step; go_step; go_step; refine wp_region_lit ?_)
  refine wl_row hM6 0 (v := numV v2) rfl rfl rfl rfl rowNu rfl ?_
  simp only [Act.put, List.setIfInBounds_toArray, List.set_cons_zero, List.set_cons_succ]
  obtain ⟨zb, ezb⟩ : ∃ t : ByteArray, t = ⟨(byL v2).toArray⟩ := ⟨_, rfl⟩
  have KZ := Lib.hid (fun w => rbytes_any v2 w)
  rw [← ezb] at KZ
  refine wl_call hM6 (args := #[numV v2]) (v := .string zb) (fun W => run_call_fn W (enters_of Try.func58 rfl rfl) rfl (by simp [Act.eval])) (KZ.out W6) rfl fun W7 hM7 => ?_
  simp only [Act.put, List.setIfInBounds_toArray, List.set_cons_zero, List.set_cons_succ]
  refine wl_pure (v := .string zb) (fun _ => rfl) rfl ?_
  simp only [Act.put, List.setIfInBounds_toArray, List.set_cons_zero, List.set_cons_succ]
  refine wpList_nil ?_
  (go_step; go_step; go_step; refine wp_region_lit ?_)
  refine wl_pure (v := .string zb) (fun _ => rfl) rfl ?_
  simp only [Act.put, List.setIfInBounds_toArray, List.set_cons_zero, List.set_cons_succ]
  obtain ⟨l, el⟩ : ∃ l, v2 / 256 ^ 31 % 256 = l := ⟨_, rfl⟩
  have hl : l < 128 := by rw [← el]; exact top_low v2 pv2
  have KI : zb[31]? = some (UInt8.ofNat l) := by rw [ezb, ← el]; exact byL_at v2 31 (by decide)
  refine wl_pure (v := .int .u8 (l : Int)) (fun W => (u8_nat' l (Nat.lt_trans hl (by decide))) ▸ run_idx_str W rfl rfl rfl Try.underlying9 KI) rfl ?_
  simp only [Act.put, List.setIfInBounds_toArray, List.set_cons_zero, List.set_cons_succ]
  refine wl_pure (v := .int .u8 (l : Int)) (fun _ => rfl) rfl ?_
  simp only [Act.put, List.setIfInBounds_toArray, List.set_cons_zero, List.set_cons_succ]
  refine wpList_nil ?_
  (go_step; go_step; go_step; go_step; refine wp_region_lit ?_)
  refine wl_pure (v := .pointer (some ⟨b2, 0, none⟩)) (fun W => run_index_of rfl rfl rfl (ix_Nu0 b2 W)) rfl ?_
  simp only [Act.put, List.setIfInBounds_toArray, List.set_cons_zero, List.set_cons_succ]
  refine wl_cell hM7 1 (v := .int .u64 (wd v1 0 : Int)) rfl rfl rfl rfl cellU rfl ?_
  simp only [Act.put, List.setIfInBounds_toArray, List.set_cons_zero, List.set_cons_succ]
  refine wl_pure (v := .int .u64 (((wd v1 0) % 2 : Nat) : Int)) (fun W => run_bin_of rfl rfl rfl (bin_rem_u64 (wd v1 0) _ _ W)) rfl ?_
  simp only [Act.put, List.setIfInBounds_toArray, List.set_cons_zero, List.set_cons_succ]
  obtain ⟨c1, hc1⟩ : ∃ x, x = decide (((wd v1 0) % 2) = 1) := ⟨_, rfl⟩
  refine wl_pure (v := .bool c1) (fun W => run_bin_of rfl rfl rfl (by rw [hc1]; exact bin_eql_u64 ((wd v1 0) % 2) _ _ W)) rfl ?_
  simp only [Act.put, List.setIfInBounds_toArray, List.set_cons_zero, List.set_cons_succ]
  refine wpList_nil ?_
  cases c1
  · skip
    have hpar := of_decide_eq_false hc1.symm
    rw [show wd v1 0 = v1 % B64 by unfold wd; rw [Nat.pow_zero, Nat.div_one], show v1 % B64 % 2 = v1 % 2 from Nat.mod_mod_of_dvd _ (by decide)] at hpar
    have hl256 : l < 256 := by omega
    (go_step; go_step; go_step; go_step; go_step; go_step; go_step; refine wp_region_inw 7 HMIX.out (by decide) (by kernel_rfl) (by kernel_rfl) ?_)
    refine inw_pure (v := .string zb) (fun _ => rfl) rfl rfl ?_; simp only [Act.put, List.setIfInBounds_toArray, List.set_cons_zero, List.set_cons_succ]
    obtain ⟨zc, ezc⟩ : ∃ t : ByteArray, t = zb.extract 0 31 := ⟨_, rfl⟩
    have hzb : 31 ≤ zb.size := by rw [ezb, byL_size]; decide
    have hzc : zc.size = 31 := by rw [ezc, ByteArray.size_extract, ezb, byL_size]; rfl
    refine inw_pure (v := .string zc) (fun W => by rw [ezc]; exact run_slc_str W rfl rfl (slc_str_hi (j := 31) W Try.underlying9 hzb)) rfl rfl ?_; simp only [Act.put, List.setIfInBounds_toArray, List.set_cons_zero, List.set_cons_succ]
    refine inw_pure (v := .int .u8 (l : Int)) (fun _ => rfl) rfl rfl ?_; simp only [Act.put, List.setIfInBounds_toArray, List.set_cons_zero, List.set_cons_succ]
    refine inw_slice (n := 1) (L := #[.int .u8 (l : Int)]) (T := 5) (fun W => run_slice_of rfl (by simp [Act.eval]) (bs_u8 l W)) rfl rfl ?_; simp only [List.nil_append, List.cons_append]
    obtain ⟨zd, ezd⟩ : ∃ t : ByteArray, t = ⟨#[UInt8.ofNat l]⟩ := ⟨_, rfl⟩
    have hzd : zd.size = 1 := by rw [ezd]; rfl
    refine inw_readS 3 25 (v := .string zd) rfl rfl (fun _ => rfl) (fun b W h => by rw [ezd]; exact run_cv_of rfl rfl (bytes_text1 l hl256 b W h)) ?_; simp only [Act.put, List.setIfInBounds_toArray, List.set_cons_zero, List.set_cons_succ]
    obtain ⟨ze, eze⟩ : ∃ t : ByteArray, t = zc ++ zd := ⟨_, rfl⟩
    have hze : zc.size + zd.size ≤ 9223372036854775807 := by rw [hzc, hzd]; decide
    refine inw_pure (v := .string ze) (fun W => run_bin_of rfl rfl rfl (by rw [eze]; exact add_str _ _ W hze)) rfl rfl ?_; simp only [Act.put, List.setIfInBounds_toArray, List.set_cons_zero, List.set_cons_succ]
    refine inw_pure (v := .string ze) (fun _ => rfl) rfl rfl ?_; simp only [Act.put, List.setIfInBounds_toArray, List.set_cons_zero, List.set_cons_succ]
    refine inw_fin fun d os => ?_
    refine given_mk (t := 25) rfl fun s3 => ?_
    refine given_nil fun hap => ?_
    simp only [Act.put, List.setIfInBounds_toArray, List.set_cons_zero, List.set_cons_succ] at hap ⊢
    have hM8 := hM7.calls (below_regrown W7 d os)
    clear hap 
    generalize grow (redrawn W7 d) os = W8 at hM8 ⊢
    refine wpAny_done (by kernel_rfl) ?_ _
    (go_step; go_step; go_step; refine bodyPost_ret (v := .string ze) (results_slot Try.results14 rfl) rfl ⟨?_, hM8.below⟩)
    exact by
        have ht := (enc_text v1 v2 pv2).2 hpar
        rw [el] at ht
        rw [eze, ezc, ezd, ezb, ht, ev1, ev2]
  · skip
    have hpar := of_decide_eq_true hc1.symm
    rw [show wd v1 0 = v1 % B64 by unfold wd; rw [Nat.pow_zero, Nat.div_one], show v1 % B64 % 2 = v1 % 2 from Nat.mod_mod_of_dvd _ (by decide)] at hpar
    (go_step; go_step; go_step; refine wp_region_lit ?_)
    refine wl_pure (v := .int .u8 (l : Int)) (fun _ => rfl) rfl ?_
    simp only [Act.put, List.setIfInBounds_toArray, List.set_cons_zero, List.set_cons_succ]
    refine wl_pure (v := .int .u8 ((l + 128 : Nat) : Int)) (fun W => run_bin_of rfl rfl rfl (bin_add_u8 l hl _ _ W)) rfl ?_
    simp only [Act.put, List.setIfInBounds_toArray, List.set_cons_zero, List.set_cons_succ]
    refine wl_pure (v := .int .u8 ((l + 128 : Nat) : Int)) (fun _ => rfl) rfl ?_
    simp only [Act.put, List.setIfInBounds_toArray, List.set_cons_zero, List.set_cons_succ]
    refine wpList_nil ?_
    have hl256 : l + 128 < 256 := by omega
    (go_step; go_step; go_step; refine wp_region_inw 7 HMIX.out (by decide) (by kernel_rfl) (by kernel_rfl) ?_)
    refine inw_pure (v := .string zb) (fun _ => rfl) rfl rfl ?_; simp only [Act.put, List.setIfInBounds_toArray, List.set_cons_zero, List.set_cons_succ]
    obtain ⟨zc, ezc⟩ : ∃ t : ByteArray, t = zb.extract 0 31 := ⟨_, rfl⟩
    have hzb : 31 ≤ zb.size := by rw [ezb, byL_size]; decide
    have hzc : zc.size = 31 := by rw [ezc, ByteArray.size_extract, ezb, byL_size]; rfl
    refine inw_pure (v := .string zc) (fun W => by rw [ezc]; exact run_slc_str W rfl rfl (slc_str_hi (j := 31) W Try.underlying9 hzb)) rfl rfl ?_; simp only [Act.put, List.setIfInBounds_toArray, List.set_cons_zero, List.set_cons_succ]
    refine inw_pure (v := .int .u8 ((l + 128 : Nat) : Int)) (fun _ => rfl) rfl rfl ?_; simp only [Act.put, List.setIfInBounds_toArray, List.set_cons_zero, List.set_cons_succ]
    refine inw_slice (n := 1) (L := #[.int .u8 ((l + 128 : Nat) : Int)]) (T := 5) (fun W => run_slice_of rfl (by simp [Act.eval]) (bs_u8 (l + 128) W)) rfl rfl ?_; simp only [List.nil_append, List.cons_append]
    obtain ⟨zd, ezd⟩ : ∃ t : ByteArray, t = ⟨#[UInt8.ofNat (l + 128)]⟩ := ⟨_, rfl⟩
    have hzd : zd.size = 1 := by rw [ezd]; rfl
    refine inw_readS 3 25 (v := .string zd) rfl rfl (fun _ => rfl) (fun b W h => by rw [ezd]; exact run_cv_of rfl rfl (bytes_text1 (l + 128) hl256 b W h)) ?_; simp only [Act.put, List.setIfInBounds_toArray, List.set_cons_zero, List.set_cons_succ]
    obtain ⟨ze, eze⟩ : ∃ t : ByteArray, t = zc ++ zd := ⟨_, rfl⟩
    have hze : zc.size + zd.size ≤ 9223372036854775807 := by rw [hzc, hzd]; decide
    refine inw_pure (v := .string ze) (fun W => run_bin_of rfl rfl rfl (by rw [eze]; exact add_str _ _ W hze)) rfl rfl ?_; simp only [Act.put, List.setIfInBounds_toArray, List.set_cons_zero, List.set_cons_succ]
    refine inw_pure (v := .string ze) (fun _ => rfl) rfl rfl ?_; simp only [Act.put, List.setIfInBounds_toArray, List.set_cons_zero, List.set_cons_succ]
    refine inw_fin fun d os => ?_
    refine given_mk (t := 25) rfl fun s3 => ?_
    refine given_nil fun hap => ?_
    simp only [Act.put, List.setIfInBounds_toArray, List.set_cons_zero, List.set_cons_succ] at hap ⊢
    have hM8 := hM7.calls (below_regrown W7 d os)
    clear hap 
    generalize grow (redrawn W7 d) os = W8 at hM8 ⊢
    refine wpAny_done (by kernel_rfl) ?_ _
    (go_step; go_step; go_step; refine bodyPost_ret (v := .string ze) (results_slot Try.results14 rfl) rfl ⟨?_, hM8.below⟩)
    exact by
        have ht := (enc_text v1 v2 pv2).1 hpar
        rw [el] at ht
        rw [eze, ezc, ezd, ezb, ht, ev1, ev2]
set_option maxRecDepth 20000 in
set_option maxHeartbeats 8000000 in
theorem number_any (s : ByteArray) (hs : s.size = 32) (w : World) : Calls Try.prog 61 #[.string s] w fun E w' => E = .returned (numV (leN s.data.toList)) ∧ Below w.heap.size w w' := by
  obtain ⟨N, hN⟩ : ∃ N, leN s.data.toList = N := ⟨_, rfl⟩
  obtain ⟨w0, hw0⟩ : ∃ x, wd (leN s.data.toList) 0 = x := ⟨_, rfl⟩
  obtain ⟨w1, hw1⟩ : ∃ x, wd (leN s.data.toList) 1 = x := ⟨_, rfl⟩
  obtain ⟨w2, hw2⟩ : ∃ x, wd (leN s.data.toList) 2 = x := ⟨_, rfl⟩
  obtain ⟨w3, hw3⟩ : ∃ x, wd (leN s.data.toList) 3 = x := ⟨_, rfl⟩
  rw [hN]
  go_enter Try.func61, Try.ntmps61
  have hM0 := Mem.start w
  (go_step; go_step; refine wp_region_lit ?_)
  refine wl_new hM0 (f := fun b => .pointer (some ⟨b, 0, none⟩)) (ob := .cells z4 24 (0, 0)) (fun W => run_alloc_of rfl (al_Nu W)) rfl fun b1 W1 hM1 => ?_
  simp only [Act.put, List.setIfInBounds_toArray, List.set_cons_zero, List.set_cons_succ]
  refine wpList_nil ?_
  (go_step; go_step; go_step; refine wp_region_lit ?_)
  refine wl_new hM1 (f := fun b => .pointer (some ⟨b, 0, none⟩)) (ob := .cells z4 24 (0, 0)) (fun W => run_alloc_of rfl (al_Nu W)) rfl fun b2 W2 hM2 => ?_
  simp only [Act.put, List.setIfInBounds_toArray, List.set_cons_zero, List.set_cons_succ]
  refine wpList_nil ?_
  (go_step; go_step; go_step; go_step; refine wp_region_lit ?_)
  refine wl_pure (v := .int .i64 0) (fun _ => rfl) rfl ?_
  simp only [Act.put, List.setIfInBounds_toArray, List.set_cons_zero, List.set_cons_succ]
  refine wpList_nil ?_
  (go_step; go_step; go_step; refine wp_loop_rounds 5 ?_)
  rw [rounds_succ]
  (go_step; go_step; refine wp_region_lit ?_)
  refine wl_pure (v := .int .i64 0) (fun _ => rfl) rfl ?_
  simp only [Act.put, List.setIfInBounds_toArray, List.set_cons_zero, List.set_cons_succ]
  refine wl_pure (v := .bool true) (fun W => by go_simp) rfl ?_
  simp only [Act.put, List.setIfInBounds_toArray, List.set_cons_zero, List.set_cons_succ]
  refine wpList_nil ?_
  (go_step; go_step; go_step; go_step; go_step; go_step; go_step; go_step; refine wp_region_lit ?_)
  refine wl_pure (v := .int .i64 0) (fun _ => rfl) rfl ?_
  simp only [Act.put, List.setIfInBounds_toArray, List.set_cons_zero, List.set_cons_succ]
  refine wl_pure (v := .string s) (fun _ => rfl) rfl ?_
  simp only [Act.put, List.setIfInBounds_toArray, List.set_cons_zero, List.set_cons_succ]
  refine wl_pure (v := .int .i64 0) (fun _ => rfl) rfl ?_
  simp only [Act.put, List.setIfInBounds_toArray, List.set_cons_zero, List.set_cons_succ]
  refine wl_pure (v := .int .i64 0) (fun W => by go_simp; decide) rfl ?_
  simp only [Act.put, List.setIfInBounds_toArray, List.set_cons_zero, List.set_cons_succ]
  refine wl_pure (v := .int .i64 0) (fun _ => rfl) rfl ?_
  simp only [Act.put, List.setIfInBounds_toArray, List.set_cons_zero, List.set_cons_succ]
  refine wl_pure (v := .int .i64 0) (fun W => by go_simp; decide) rfl ?_
  simp only [Act.put, List.setIfInBounds_toArray, List.set_cons_zero, List.set_cons_succ]
  refine wl_pure (v := .int .i64 8) (fun W => by go_simp; decide) rfl ?_
  simp only [Act.put, List.setIfInBounds_toArray, List.set_cons_zero, List.set_cons_succ]
  refine wl_pure (v := .string (s.extract (8 * 0) (8 * 0 + 8))) (fun W => run_slc_str W rfl rfl (slc_str (i := 8 * 0) (j := 8 * 0 + 8) W Try.underlying9 (by omega) (by omega))) rfl ?_
  simp only [Act.put, List.setIfInBounds_toArray, List.set_cons_zero, List.set_cons_succ]
  refine wl_call hM2 (args := #[.string (s.extract (8 * 0) (8 * 0 + 8))]) (v := .string ⟨(s.extract (8 * 0) (8 * 0 + 8)).data.toList.reverse.toArray⟩) (fun W => run_call_fn W (enters_of Try.func93 rfl rfl) rfl (by simp [Act.eval])) ((fun W => rturn8 s 0 hs (by decide) W) W2) rfl fun W3 hM3 => ?_
  simp only [Act.put, List.setIfInBounds_toArray, List.set_cons_zero, List.set_cons_succ]
  refine wl_call hM3 (args := #[.string ⟨(s.extract (8 * 0) (8 * 0 + 8)).data.toList.reverse.toArray⟩]) (v := .int .u64 (w0 : Int)) (fun W => run_call_fn W (enters_of Try.func97 rfl rfl) rfl (by simp [Act.eval])) ((fun W => rget8 s 0 w0 hs (by decide) hw0 W) W3) rfl fun W4 hM4 => ?_
  simp only [Act.put, List.setIfInBounds_toArray, List.set_cons_zero, List.set_cons_succ]
  refine wl_pure (v := .pointer (some ⟨b2, 0, none⟩)) (fun W => run_index_of rfl rfl rfl (ix_Nu0 b2 W)) rfl ?_
  simp only [Act.put, List.setIfInBounds_toArray, List.set_cons_zero, List.set_cons_succ]
  refine wl_setat hM4 0 (cs' := #[.int .u64 (w0 : Int), .int .u64 0, .int .u64 0, .int .u64 0]) rfl rfl rfl rfl (by show 0 < 4; decide) (rfl) cellU rfl rfl rfl fun W5 hM5 => ?_
  simp only [List.set_cons_zero, List.set_cons_succ] at hM5
  refine wpList_nil ?_
  (go_step; go_step; refine wp_region_lit ?_)
  refine wl_pure (v := .int .i64 0) (fun _ => rfl) rfl ?_
  simp only [Act.put, List.setIfInBounds_toArray, List.set_cons_zero, List.set_cons_succ]
  refine wl_pure (v := .int .i64 1) (fun W => by go_simp; decide) rfl ?_
  simp only [Act.put, List.setIfInBounds_toArray, List.set_cons_zero, List.set_cons_succ]
  refine wl_pure (v := .int .i64 1) (fun _ => rfl) rfl ?_
  simp only [Act.put, List.setIfInBounds_toArray, List.set_cons_zero, List.set_cons_succ]
  refine wpList_nil ?_
  go_step
  rw [rounds_succ]
  (go_step; go_step; refine wp_region_lit ?_)
  refine wl_pure (v := .int .i64 1) (fun _ => rfl) rfl ?_
  simp only [Act.put, List.setIfInBounds_toArray, List.set_cons_zero, List.set_cons_succ]
  refine wl_pure (v := .bool true) (fun W => by go_simp) rfl ?_
  simp only [Act.put, List.setIfInBounds_toArray, List.set_cons_zero, List.set_cons_succ]
  refine wpList_nil ?_
  (go_step; go_step; go_step; go_step; go_step; go_step; go_step; go_step; refine wp_region_lit ?_)
  refine wl_pure (v := .int .i64 1) (fun _ => rfl) rfl ?_
  simp only [Act.put, List.setIfInBounds_toArray, List.set_cons_zero, List.set_cons_succ]
  refine wl_pure (v := .string s) (fun _ => rfl) rfl ?_
  simp only [Act.put, List.setIfInBounds_toArray, List.set_cons_zero, List.set_cons_succ]
  refine wl_pure (v := .int .i64 1) (fun _ => rfl) rfl ?_
  simp only [Act.put, List.setIfInBounds_toArray, List.set_cons_zero, List.set_cons_succ]
  refine wl_pure (v := .int .i64 8) (fun W => by go_simp; decide) rfl ?_
  simp only [Act.put, List.setIfInBounds_toArray, List.set_cons_zero, List.set_cons_succ]
  refine wl_pure (v := .int .i64 1) (fun _ => rfl) rfl ?_
  simp only [Act.put, List.setIfInBounds_toArray, List.set_cons_zero, List.set_cons_succ]
  refine wl_pure (v := .int .i64 8) (fun W => by go_simp; decide) rfl ?_
  simp only [Act.put, List.setIfInBounds_toArray, List.set_cons_zero, List.set_cons_succ]
  refine wl_pure (v := .int .i64 16) (fun W => by go_simp; decide) rfl ?_
  simp only [Act.put, List.setIfInBounds_toArray, List.set_cons_zero, List.set_cons_succ]
  refine wl_pure (v := .string (s.extract (8 * 1) (8 * 1 + 8))) (fun W => run_slc_str W rfl rfl (slc_str (i := 8 * 1) (j := 8 * 1 + 8) W Try.underlying9 (by omega) (by omega))) rfl ?_
  simp only [Act.put, List.setIfInBounds_toArray, List.set_cons_zero, List.set_cons_succ]
  refine wl_call hM5 (args := #[.string (s.extract (8 * 1) (8 * 1 + 8))]) (v := .string ⟨(s.extract (8 * 1) (8 * 1 + 8)).data.toList.reverse.toArray⟩) (fun W => run_call_fn W (enters_of Try.func93 rfl rfl) rfl (by simp [Act.eval])) ((fun W => rturn8 s 1 hs (by decide) W) W5) rfl fun W6 hM6 => ?_
  simp only [Act.put, List.setIfInBounds_toArray, List.set_cons_zero, List.set_cons_succ]
  refine wl_call hM6 (args := #[.string ⟨(s.extract (8 * 1) (8 * 1 + 8)).data.toList.reverse.toArray⟩]) (v := .int .u64 (w1 : Int)) (fun W => run_call_fn W (enters_of Try.func97 rfl rfl) rfl (by simp [Act.eval])) ((fun W => rget8 s 1 w1 hs (by decide) hw1 W) W6) rfl fun W7 hM7 => ?_
  simp only [Act.put, List.setIfInBounds_toArray, List.set_cons_zero, List.set_cons_succ]
  refine wl_pure (v := .pointer (some ⟨b2, 1, none⟩)) (fun W => run_index_of rfl rfl rfl (ix_Nu1 b2 W)) rfl ?_
  simp only [Act.put, List.setIfInBounds_toArray, List.set_cons_zero, List.set_cons_succ]
  refine wl_setat hM7 0 (cs' := #[.int .u64 (w0 : Int), .int .u64 (w1 : Int), .int .u64 0, .int .u64 0]) rfl rfl rfl rfl (by show 1 < 4; decide) (rfl) cellU rfl rfl rfl fun W8 hM8 => ?_
  simp only [List.set_cons_zero, List.set_cons_succ] at hM8
  refine wpList_nil ?_
  (go_step; go_step; refine wp_region_lit ?_)
  refine wl_pure (v := .int .i64 1) (fun _ => rfl) rfl ?_
  simp only [Act.put, List.setIfInBounds_toArray, List.set_cons_zero, List.set_cons_succ]
  refine wl_pure (v := .int .i64 2) (fun W => by go_simp; decide) rfl ?_
  simp only [Act.put, List.setIfInBounds_toArray, List.set_cons_zero, List.set_cons_succ]
  refine wl_pure (v := .int .i64 2) (fun _ => rfl) rfl ?_
  simp only [Act.put, List.setIfInBounds_toArray, List.set_cons_zero, List.set_cons_succ]
  refine wpList_nil ?_
  go_step
  rw [rounds_succ]
  (go_step; go_step; refine wp_region_lit ?_)
  refine wl_pure (v := .int .i64 2) (fun _ => rfl) rfl ?_
  simp only [Act.put, List.setIfInBounds_toArray, List.set_cons_zero, List.set_cons_succ]
  refine wl_pure (v := .bool true) (fun W => by go_simp) rfl ?_
  simp only [Act.put, List.setIfInBounds_toArray, List.set_cons_zero, List.set_cons_succ]
  refine wpList_nil ?_
  (go_step; go_step; go_step; go_step; go_step; go_step; go_step; go_step; refine wp_region_lit ?_)
  refine wl_pure (v := .int .i64 2) (fun _ => rfl) rfl ?_
  simp only [Act.put, List.setIfInBounds_toArray, List.set_cons_zero, List.set_cons_succ]
  refine wl_pure (v := .string s) (fun _ => rfl) rfl ?_
  simp only [Act.put, List.setIfInBounds_toArray, List.set_cons_zero, List.set_cons_succ]
  refine wl_pure (v := .int .i64 2) (fun _ => rfl) rfl ?_
  simp only [Act.put, List.setIfInBounds_toArray, List.set_cons_zero, List.set_cons_succ]
  refine wl_pure (v := .int .i64 16) (fun W => by go_simp; decide) rfl ?_
  simp only [Act.put, List.setIfInBounds_toArray, List.set_cons_zero, List.set_cons_succ]
  refine wl_pure (v := .int .i64 2) (fun _ => rfl) rfl ?_
  simp only [Act.put, List.setIfInBounds_toArray, List.set_cons_zero, List.set_cons_succ]
  refine wl_pure (v := .int .i64 16) (fun W => by go_simp; decide) rfl ?_
  simp only [Act.put, List.setIfInBounds_toArray, List.set_cons_zero, List.set_cons_succ]
  refine wl_pure (v := .int .i64 24) (fun W => by go_simp; decide) rfl ?_
  simp only [Act.put, List.setIfInBounds_toArray, List.set_cons_zero, List.set_cons_succ]
  refine wl_pure (v := .string (s.extract (8 * 2) (8 * 2 + 8))) (fun W => run_slc_str W rfl rfl (slc_str (i := 8 * 2) (j := 8 * 2 + 8) W Try.underlying9 (by omega) (by omega))) rfl ?_
  simp only [Act.put, List.setIfInBounds_toArray, List.set_cons_zero, List.set_cons_succ]
  refine wl_call hM8 (args := #[.string (s.extract (8 * 2) (8 * 2 + 8))]) (v := .string ⟨(s.extract (8 * 2) (8 * 2 + 8)).data.toList.reverse.toArray⟩) (fun W => run_call_fn W (enters_of Try.func93 rfl rfl) rfl (by simp [Act.eval])) ((fun W => rturn8 s 2 hs (by decide) W) W8) rfl fun W9 hM9 => ?_
  simp only [Act.put, List.setIfInBounds_toArray, List.set_cons_zero, List.set_cons_succ]
  refine wl_call hM9 (args := #[.string ⟨(s.extract (8 * 2) (8 * 2 + 8)).data.toList.reverse.toArray⟩]) (v := .int .u64 (w2 : Int)) (fun W => run_call_fn W (enters_of Try.func97 rfl rfl) rfl (by simp [Act.eval])) ((fun W => rget8 s 2 w2 hs (by decide) hw2 W) W9) rfl fun W10 hM10 => ?_
  simp only [Act.put, List.setIfInBounds_toArray, List.set_cons_zero, List.set_cons_succ]
  refine wl_pure (v := .pointer (some ⟨b2, 2, none⟩)) (fun W => run_index_of rfl rfl rfl (ix_Nu2 b2 W)) rfl ?_
  simp only [Act.put, List.setIfInBounds_toArray, List.set_cons_zero, List.set_cons_succ]
  refine wl_setat hM10 0 (cs' := #[.int .u64 (w0 : Int), .int .u64 (w1 : Int), .int .u64 (w2 : Int), .int .u64 0]) rfl rfl rfl rfl (by show 2 < 4; decide) (rfl) cellU rfl rfl rfl fun W11 hM11 => ?_
  simp only [List.set_cons_zero, List.set_cons_succ] at hM11
  refine wpList_nil ?_
  (go_step; go_step; refine wp_region_lit ?_)
  refine wl_pure (v := .int .i64 2) (fun _ => rfl) rfl ?_
  simp only [Act.put, List.setIfInBounds_toArray, List.set_cons_zero, List.set_cons_succ]
  refine wl_pure (v := .int .i64 3) (fun W => by go_simp; decide) rfl ?_
  simp only [Act.put, List.setIfInBounds_toArray, List.set_cons_zero, List.set_cons_succ]
  refine wl_pure (v := .int .i64 3) (fun _ => rfl) rfl ?_
  simp only [Act.put, List.setIfInBounds_toArray, List.set_cons_zero, List.set_cons_succ]
  refine wpList_nil ?_
  go_step
  rw [rounds_succ]
  (go_step; go_step; refine wp_region_lit ?_)
  refine wl_pure (v := .int .i64 3) (fun _ => rfl) rfl ?_
  simp only [Act.put, List.setIfInBounds_toArray, List.set_cons_zero, List.set_cons_succ]
  refine wl_pure (v := .bool true) (fun W => by go_simp) rfl ?_
  simp only [Act.put, List.setIfInBounds_toArray, List.set_cons_zero, List.set_cons_succ]
  refine wpList_nil ?_
  (go_step; go_step; go_step; go_step; go_step; go_step; go_step; go_step; refine wp_region_lit ?_)
  refine wl_pure (v := .int .i64 3) (fun _ => rfl) rfl ?_
  simp only [Act.put, List.setIfInBounds_toArray, List.set_cons_zero, List.set_cons_succ]
  refine wl_pure (v := .string s) (fun _ => rfl) rfl ?_
  simp only [Act.put, List.setIfInBounds_toArray, List.set_cons_zero, List.set_cons_succ]
  refine wl_pure (v := .int .i64 3) (fun _ => rfl) rfl ?_
  simp only [Act.put, List.setIfInBounds_toArray, List.set_cons_zero, List.set_cons_succ]
  refine wl_pure (v := .int .i64 24) (fun W => by go_simp; decide) rfl ?_
  simp only [Act.put, List.setIfInBounds_toArray, List.set_cons_zero, List.set_cons_succ]
  refine wl_pure (v := .int .i64 3) (fun _ => rfl) rfl ?_
  simp only [Act.put, List.setIfInBounds_toArray, List.set_cons_zero, List.set_cons_succ]
  refine wl_pure (v := .int .i64 24) (fun W => by go_simp; decide) rfl ?_
  simp only [Act.put, List.setIfInBounds_toArray, List.set_cons_zero, List.set_cons_succ]
  refine wl_pure (v := .int .i64 32) (fun W => by go_simp; decide) rfl ?_
  simp only [Act.put, List.setIfInBounds_toArray, List.set_cons_zero, List.set_cons_succ]
  refine wl_pure (v := .string (s.extract (8 * 3) (8 * 3 + 8))) (fun W => run_slc_str W rfl rfl (slc_str (i := 8 * 3) (j := 8 * 3 + 8) W Try.underlying9 (by omega) (by omega))) rfl ?_
  simp only [Act.put, List.setIfInBounds_toArray, List.set_cons_zero, List.set_cons_succ]
  refine wl_call hM11 (args := #[.string (s.extract (8 * 3) (8 * 3 + 8))]) (v := .string ⟨(s.extract (8 * 3) (8 * 3 + 8)).data.toList.reverse.toArray⟩) (fun W => run_call_fn W (enters_of Try.func93 rfl rfl) rfl (by simp [Act.eval])) ((fun W => rturn8 s 3 hs (by decide) W) W11) rfl fun W12 hM12 => ?_
  simp only [Act.put, List.setIfInBounds_toArray, List.set_cons_zero, List.set_cons_succ]
  refine wl_call hM12 (args := #[.string ⟨(s.extract (8 * 3) (8 * 3 + 8)).data.toList.reverse.toArray⟩]) (v := .int .u64 (w3 : Int)) (fun W => run_call_fn W (enters_of Try.func97 rfl rfl) rfl (by simp [Act.eval])) ((fun W => rget8 s 3 w3 hs (by decide) hw3 W) W12) rfl fun W13 hM13 => ?_
  simp only [Act.put, List.setIfInBounds_toArray, List.set_cons_zero, List.set_cons_succ]
  refine wl_pure (v := .pointer (some ⟨b2, 3, none⟩)) (fun W => run_index_of rfl rfl rfl (ix_Nu3 b2 W)) rfl ?_
  simp only [Act.put, List.setIfInBounds_toArray, List.set_cons_zero, List.set_cons_succ]
  refine wl_setat hM13 0 (cs' := #[.int .u64 (w0 : Int), .int .u64 (w1 : Int), .int .u64 (w2 : Int), .int .u64 (w3 : Int)]) rfl rfl rfl rfl (by show 3 < 4; decide) (rfl) cellU rfl rfl rfl fun W14 hM14 => ?_
  simp only [List.set_cons_zero, List.set_cons_succ] at hM14
  refine wpList_nil ?_
  (go_step; go_step; refine wp_region_lit ?_)
  refine wl_pure (v := .int .i64 3) (fun _ => rfl) rfl ?_
  simp only [Act.put, List.setIfInBounds_toArray, List.set_cons_zero, List.set_cons_succ]
  refine wl_pure (v := .int .i64 4) (fun W => by go_simp; decide) rfl ?_
  simp only [Act.put, List.setIfInBounds_toArray, List.set_cons_zero, List.set_cons_succ]
  refine wl_pure (v := .int .i64 4) (fun _ => rfl) rfl ?_
  simp only [Act.put, List.setIfInBounds_toArray, List.set_cons_zero, List.set_cons_succ]
  refine wpList_nil ?_
  go_step
  rw [rounds_succ]
  (go_step; go_step; refine wp_region_lit ?_)
  refine wl_pure (v := .int .i64 4) (fun _ => rfl) rfl ?_
  simp only [Act.put, List.setIfInBounds_toArray, List.set_cons_zero, List.set_cons_succ]
  refine wl_pure (v := .bool false) (fun W => by go_simp) rfl ?_
  simp only [Act.put, List.setIfInBounds_toArray, List.set_cons_zero, List.set_cons_succ]
  refine wpList_nil ?_
  have EN : #[Value.int .u64 (w0 : Int), .int .u64 (w1 : Int), .int .u64 (w2 : Int), .int .u64 (w3 : Int)] = elR N := by unfold elR; rw [← hw0, ← hw1, ← hw2, ← hw3, hN]
  rw [EN] at hM14
  (go_step; go_step; go_step; go_step; go_step; go_step; go_step; refine wp_region_lit ?_)
  refine wl_row hM14 0 (v := numV N) rfl rfl rfl rfl rowNu rfl ?_
  simp only [Act.put, List.setIfInBounds_toArray, List.set_cons_zero, List.set_cons_succ]
  refine wl_set hM14 1 (cs := (elR N)) rfl rfl rfl rfl rowNu rfl (one_el N) rfl rfl fun W15 hM15 => ?_
  simp only [List.set_cons_zero, List.set_cons_succ] at hM15
  refine wpList_nil ?_
  (go_step; go_step; go_step; refine bodyPost_ret (v := numV N) (results_arr Try.results61 rfl (hM15.load 1 rfl rowNu)) rfl ⟨?_, hM15.below⟩)
  exact rfl
end Go.Proofs.Ytigfoophimjgdaa
