/- wide.Of and (wide.Num).Bytes: what they answer. -/
import Derived.Test.YtmpbndhlnnfbfaaWidF
import Derived.Test.YtmpbndhlnnfbfaaWidMb
namespace Go.Proofs.Ytmpbndhlnnfbfaa
open Go.RowKit
/-- The number of bytes, the lowest one first. -/
def leN : List UInt8 → Nat
  | [] => 0
  | b :: t => b.toNat + 256 * leN t
theorem leN_lt : ∀ l : List UInt8, leN l < 256 ^ l.length
  | [] => by decide
  | b :: t => by
    have h1 := leN_lt t
    have h2 := b.toNat_lt
    rw [leN, List.length_cons, Nat.pow_succ]
    omega
theorem leN_at : ∀ (l : List UInt8) (k : Nat), leN l / 256 ^ k % 256 = (l.getD k 0).toNat
  | [], k => by simp [leN]
  | b :: t, 0 => by
    have h2 := b.toNat_lt
    simp only [leN, Nat.pow_zero, Nat.div_one, List.getD_cons_zero]
    omega
  | b :: t, k + 1 => by
    have h1 := leN_at t k
    have h2 := b.toNat_lt
    rw [leN, Nat.pow_succ, Nat.mul_comm (256 ^ k), ← Nat.div_div_eq_div_mul, List.getD_cons_succ, ← h1]
    congr 2
    omega
set_option maxHeartbeats 1000000 in
theorem of_any (s : ByteArray) (w : World) (hs : s.size = 32) :
    Calls Try.prog 15 #[.string s] w fun e w' => e = .returned (.tuple #[numV (leN s.data.toList), .int .i64 0]) ∧ Below w.heap.size w w' := by
  have hsI : (s.size : Int) = 32 := by omega
  have xr : ((w.alloc (.cells (numL 0).toArray 25)).alloc (.cells (numL 0).toArray 25)).heap[w.heap.size]? = some (.cells (numL 0).toArray 25 (0, 0)) := by
    rw [alloc_old _ _ _ (by rw [alloc_size1]; omega), alloc_new]
  have x0 : ((w.alloc (.cells (numL 0).toArray 25)).alloc (.cells (numL 0).toArray 25)).heap[w.heap.size + 1]? = some (.cells (numL 0).toArray 25 (0, 0)) := by
    have := alloc_new (w.alloc (.cells (numL 0).toArray 25)) (.cells (numL 0).toArray 25)
    rw [alloc_size1] at this
    exact this
  have xb : Below w.heap.size w ((w.alloc (.cells (numL 0).toArray 25)).alloc (.cells (numL 0).toArray 25)) := gr_alloc (gr_alloc (Below.refl _ _) _) _
  go_enter Try.func15, Try.ntmps15
  go_wp2_with fail
  change Code.wp _ _ _ _ ((w.alloc (.cells (numL 0).toArray 25)).alloc (.cells (numL 0).toArray 25))
  generalize (w.alloc (.cells (numL 0).toArray 25)).alloc (.cells (numL 0).toArray 25) = X at *
  obtain ⟨v, hv⟩ : ∃ v, leN s.data.toList = v := ⟨_, rfl⟩
  have HV : ∀ k, Hid (v / 256 ^ k % 256 = (s.data.toList.getD k 0).toNat) := fun k => by
    show v / 256 ^ k % 256 = _
    rw [← hv]; exact leN_at _ _
  have HL := Lib.hid (show v < 256 ^ 32 from by
    rw [← hv]
    have := leN_lt s.data.toList
    rwa [show s.data.toList.length = 32 from hs] at this)
  have HV0 := Lib.hid hv
  clear hv
  go_loopw [10] (fun i wr => ∃ k : Nat, k ≤ 32 ∧ i = .int .i64 (k : Int) ∧ wr.heap[w.heap.size]? = some (.cells (numL 0).toArray 25 (0, 0)) ∧ wr.heap[w.heap.size + 1]? = some (.cells (numL (v % 256 ^ k)).toArray 25 (0, 0)) ∧ Below w.heap.size w wr) (fun i _ => 32 - (intOf i).toNat)
  case atStart => exact ⟨0, by omega, rfl, xr, by rw [Nat.pow_zero, Nat.mod_one]; exact x0, xb⟩
  case round =>
    clear xr x0 xb
    obtain ⟨k, hk, rfl, yr, y0, hb⟩ := hrel
    by_cases hlt : k < 32
    · have k1 : (k : Int) < 32 := by omega
      have k2 : k < s.size := by omega
      have hd : v / 256 ^ k % 256 < 256 := Nat.mod_lt _ (by decide)
      obtain ⟨Q, hQ⟩ : ∃ Q, k / 8 = Q := ⟨_, rfl⟩
      obtain ⟨r, hr⟩ : ∃ r, k % 8 = r := ⟨_, rfl⟩
      have t1 : (k : Int).tdiv 8 = (Q : Int) := by rw [Int.tdiv_eq_ediv_of_nonneg (by omega)]; omega
      have t2 : (k : Int).tmod 8 = (r : Int) := by rw [Int.tmod_eq_emod_of_nonneg (by omega)]; omega
      have d1 : (k : Int) / 8 = (Q : Int) := by omega
      have d2 : (k : Int) % 8 = (r : Int) := by omega
      have q4 : (Q : Int) < 4 := by omega
      have r4 : (r : Int) < 8 := by omega
      have n1 : (Q : Int).toNat = Q := by omega
      have n2 : (8 * (r : Int)).toNat = 8 * r := by omega
      have n3 : 8 * (r : Int) < 64 := by omega
      obtain ⟨g1, g2, g3⟩ := digit_in v 8 8 k rfl (by omega)
      rw [hQ, hr] at g1
      rw [hr] at g2
      rw [hQ] at g3
      obtain ⟨c1, f1⟩ := arr_get y0 (numL_get (v % 256 ^ k) Q (by omega))
      have hw := wd_lt (v % 256 ^ k) Q
      have HY := Lib.hid y0
      have HR := Lib.hid yr
      have G1 := Lib.hid g1
      have G2 := Lib.hid g2
      have G3 := Lib.hid g3
      clear g1 g2 g3 y0 yr hQ hr
      obtain ⟨D, hD⟩ : ∃ D, v / 256 ^ k % 256 = D := ⟨_, rfl⟩
      have HD := Lib.hid hD
      have HDB := Lib.hid ((HV k).out.symm.trans hD)
      rw [hD] at hd
      generalize hW : wd (v % 256 ^ k) Q = W0 at c1 hw
      have HW := Lib.hid hW
      clear hD hW
      obtain ⟨NW, hNW⟩ : ∃ NW, wd (v % 256 ^ (k + 1)) Q = NW := ⟨_, rfl⟩
      have hor := or_shift W0 D (8 * r) hw (by have h := G2.out; rw [show v / (2 ^ 8) ^ k % 2 ^ 8 = D from HD.out] at h; exact h)
      have hNW2 : W0 ||| D <<< (8 * r) = NW := by
        have h := G1.out
        rw [show v / (2 ^ 8) ^ k % 2 ^ 8 = D from HD.out, show wd (v % (2 ^ 8) ^ k) Q = W0 from HW.out] at h
        rw [← hNW]; exact h.symm
      rw [hNW2] at hor
      have HNW := Lib.hid hNW
      clear hNW hNW2
      have HSET := Lib.hid (arr_set (i := Q) HY.out (.int .u64 (NW : Int)))
      have r0 : IntKind.i64.wrap (Q : Int) = Q := IntWalk.i64_in _ (by omega)
      have r2 : IntKind.i64.wrap (8 * (r : Int)) = 8 * (r : Int) := IntWalk.i64_in _ (by omega)
      have hsk : ((s[k]'k2).toNat : Int) = (D : Int) := by
        have h := HDB.out
        rw [← h]
        simp only [List.getD_eq_getElem?_getD, Array.getElem?_toList, ByteArray.getElem_eq_getElem_data]
        rw [Array.getElem?_eq_getElem (show k < s.data.size from k2)]
        rfl
      have r3 : IntKind.u64.wrap (D : Int) = (D : Int) := IntWalk.u64_in _ (by omega)
      go_wp2_with fail
      go_region
      go_wp2_with fail
      go_roundw
      case rel =>
        refine ⟨k + 1, by omega, by go_num, ?_, ?_, (hb.setCell (p := ⟨w.heap.size + 1, Q, none⟩) (by show w.heap.size ≤ w.heap.size + 1; omega) _).drew⟩
        · exact (Below.heap_setCell wr ⟨w.heap.size + 1, Q, none⟩ _ w.heap.size (by show w.heap.size ≠ w.heap.size + 1; omega)).trans HR.out
        · have e : numL (v % 256 ^ (k + 1)) = (numL (v % 256 ^ k)).set Q (.int .u64 (NW : Int)) := by
            rw [← HNW.out]
            exact num_set (by omega) (fun j hj => G3.out j hj)
          rw [e]
          exact HSET.out
      case measure => simp [intOf]; omega
    · obtain rfl : k = 32 := by omega
      have HE := Lib.hid (show numV (leN s.data.toList) = .agg (numL (v % 256 ^ 32)).toArray from by rw [HV0.out, Nat.mod_eq_of_lt HL.out]; rfl)
      obtain ⟨y, hy⟩ : ∃ y, v % 256 ^ 32 = y := ⟨_, rfl⟩
      rw [hy] at y0 HE
      clear hy
      have a0 := (arr_get y0 (numL_get y 0 (by omega))).1
      have a1 := (arr_get y0 (numL_get y 1 (by omega))).1
      have a2 := (arr_get y0 (numL_get y 2 (by omega))).1
      have a3 := (arr_get y0 (numL_get y 3 (by omega))).1
      obtain ⟨d0, e0⟩ := arr_get yr (numL_get 0 0 (by omega))
      obtain ⟨d1, e1⟩ := arr_get yr (numL_get 0 1 (by omega))
      obtain ⟨d2, e2⟩ := arr_get yr (numL_get 0 2 (by omega))
      obtain ⟨d3, e3⟩ := arr_get yr (numL_get 0 3 (by omega))
      have v1 := arr_set (i := 3) (arr_set (i := 2) (arr_set (i := 1) (arr_set (i := 0) yr (.int .u64 (wd y 0 : Int))) (.int .u64 (wd y 1 : Int))) (.int .u64 (wd y 2 : Int))) (.int .u64 (wd y 3 : Int))
      have q2 : ((((numL 0).set 0 (.int .u64 (wd y 0 : Int))).set 1 (.int .u64 (wd y 1 : Int))).set 2 (.int .u64 (wd y 2 : Int))).set 3 (.int .u64 (wd y 3 : Int)) = numL y := rfl
      rw [q2] at v1
      have V1 := Lib.hid v1
      have bl : ∀ (W' : World) (q k : Nat) (x : Value), w.heap.size ≤ q → Below w.heap.size w W' → Below w.heap.size w (W'.setCell ⟨q, k, none⟩ x) := fun W' q k x hq h => h.setCell (p := ⟨q, k, none⟩) hq x
      have BB := Lib.hid (bl _ w.heap.size 3 (.int .u64 (wd y 3 : Int)) (by omega) (bl _ w.heap.size 2 (.int .u64 (wd y 2 : Int)) (by omega) (bl _ w.heap.size 1 (.int .u64 (wd y 1 : Int)) (by omega) (bl _ w.heap.size 0 (.int .u64 (wd y 0 : Int)) (by omega) hb))))
      clear y0 yr q2 v1 bl
      generalize (wd 0 0 : Int) = z0 at d0
      generalize (wd 0 1 : Int) = z1 at d1
      generalize (wd 0 2 : Int) = z2 at d2
      generalize (wd 0 3 : Int) = z3 at d3
      go_wp2_with fail
      obtain ⟨Y, hY⟩ : ∃ Y, Y = (((wr.setCell ⟨w.heap.size, 0, none⟩ (.int .u64 (wd y 0 : Int))).setCell ⟨w.heap.size, 1, none⟩ (.int .u64 (wd y 1 : Int))).setCell ⟨w.heap.size, 2, none⟩ (.int .u64 (wd y 2 : Int))).setCell ⟨w.heap.size, 3, none⟩ (.int .u64 (wd y 3 : Int)) := ⟨_, rfl⟩
      have v1 := V1.out
      have bb := BB.out
      rw [← hY] at v1 bb ⊢
      clear hY V1 BB
      have kl := run_loadVar_row (P := Try.prog) Y w.heap.size 25 25 _ (0, 0) _ v1 Try.underlying25 rfl (by kernel_rfl)
      exact bodyPost_ret (v := .tuple #[.agg (numL y).toArray, .int .i64 0]) (results_arr_tmp Try.results15 (by rfl) (by rfl) kl) rfl ⟨by rw [HE.out], bb⟩
theorem of_short (s : ByteArray) (w : World) (hs : s.size ≠ 32) :
    Calls Try.prog 15 #[.string s] w fun e w' => e = .returned (.tuple #[numV 0, .int .i64 1]) ∧ Below w.heap.size w w' := by
  have q1 : ¬ (s.size : Int) = 32 := by omega
  have q2 : decide ((s.size : Int) = 32) = false := by simp; omega
  have q3 : ((s.size : Int) == 32) = false := by simp; omega
  go_enter Try.func15, Try.ntmps15
  have kl := run_loadVar_row (P := Try.prog) (w.alloc (.cells (numL 0).toArray 25)) w.heap.size 25 25 _ (0, 0) _ (alloc_new _ _) Try.underlying25 rfl (by kernel_rfl)
  have KL := Lib.hid kl
  clear kl
  go_wp2_with fail
  exact bodyPost_ret (v := .tuple #[.agg (numL 0).toArray, .int .i64 1]) (results_arr_tmp Try.results15 (by rfl) (by rfl) KL.out) rfl ⟨rfl, gr_alloc (Below.refl _ _) _⟩
theorem wd_byte (n i : Nat) : wd n (i / 8) / 2 ^ (8 * (i % 8)) % 256 = n / 256 ^ i % 256 := by
  unfold wd
  have hp := pow_parts 8 8 i rfl
  rw [show (256 : Nat) ^ i = (2 ^ 8) ^ i from rfl, hp, ← Nat.div_div_eq_div_mul]
  generalize n / B64 ^ (i / 8) = m
  have hr : i % 8 < 8 := Nat.mod_lt _ (by decide)
  generalize i % 8 = r at *
  unfold B64
  have : r = 0 ∨ r = 1 ∨ r = 2 ∨ r = 3 ∨ r = 4 ∨ r = 5 ∨ r = 6 ∨ r = 7 := by omega
  rcases this with rfl | rfl | rfl | rfl | rfl | rfl | rfl | rfl
  · simp
  · rw [show 2 ^ (8 * 1) = 256 from rfl]; omega
  · rw [show 2 ^ (8 * 2) = 65536 from rfl]; omega
  · rw [show 2 ^ (8 * 3) = 16777216 from rfl]; omega
  · rw [show 2 ^ (8 * 4) = 4294967296 from rfl]; omega
  · rw [show 2 ^ (8 * 5) = 1099511627776 from rfl]; omega
  · rw [show 2 ^ (8 * 6) = 281474976710656 from rfl]; omega
  · rw [show 2 ^ (8 * 7) = 72057594037927936 from rfl]; omega
def rowB (p : Nat → Nat) (N : Nat) : List Value := (List.range N).map fun k => .int .u8 (p k : Int)
theorem rowB_get (p : Nat → Nat) (N k : Nat) (h : k < N) : (rowB p N)[k]? = some (.int .u8 (p k : Int)) := by
  unfold rowB
  rw [List.getElem?_map, List.getElem?_range h]
  rfl
theorem rowB_set (p : Nat → Nat) (N i x : Nat) : (rowB p N).set i (.int .u8 (x : Int)) = rowB (upd p i x) N := by
  unfold rowB
  refine List.ext_getElem (by simp) fun j h1 h2 => ?_
  rw [List.getElem_set]
  simp only [List.getElem_map, List.getElem_range]
  unfold upd
  by_cases e : i = j
  · rw [if_pos e, if_pos e.symm]
  · rw [if_neg e, if_neg (fun h => e h.symm)]
/-- The 32 bytes of a number, the lowest one first. -/
def byL (n : Nat) : List UInt8 := (List.range 32).map fun i => UInt8.ofNat (n / 256 ^ i % 256)
set_option maxHeartbeats 1000000 in
theorem bytes_any (n : Nat) (w : World) :
    Calls Try.prog 37 #[numV n] w fun e w' => e = .returned (.string ⟨(byL n).toArray⟩) ∧ Below w.heap.size w w' := by
  rw [show numV n = .agg #[.int .u64 (wd n 0 : Int), .int .u64 (wd n 1 : Int), .int .u64 (wd n 2 : Int), .int .u64 (wd n 3 : Int)] from rfl]
  have x0 : ((w.alloc (.cells (numL n).toArray 25)).alloc (.cells (rowB (fun _ => 0) 32).toArray 83)).heap[w.heap.size]? = some (.cells (numL n).toArray 25 (0, 0)) := by
    rw [alloc_old _ _ _ (by rw [alloc_size1]; omega), alloc_new]
  have x1 : ((w.alloc (.cells (numL n).toArray 25)).alloc (.cells (rowB (fun _ => 0) 32).toArray 83)).heap[w.heap.size + 1]? = some (.cells (rowB (fun _ => 0) 32).toArray 83 (0, 0)) := by
    have := alloc_new (w.alloc (.cells (numL n).toArray 25)) (.cells (rowB (fun _ => 0) 32).toArray 83)
    rw [alloc_size1] at this
    exact this
  have xb : Below w.heap.size w ((w.alloc (.cells (numL n).toArray 25)).alloc (.cells (rowB (fun _ => 0) 32).toArray 83)) := gr_alloc (gr_alloc (Below.refl _ _) _) _
  go_enter Try.func37, Try.ntmps37
  go_wp2_with fail
  change Code.wp _ _ _ _ ((w.alloc (.cells (numL n).toArray 25)).alloc (.cells (rowB (fun _ => 0) 32).toArray 83))
  generalize (w.alloc (.cells (numL n).toArray 25)).alloc (.cells (rowB (fun _ => 0) 32).toArray 83) = X at *
  go_loopw [5] (fun i wr => ∃ k : Nat, ∃ p : Nat → Nat, k ≤ 32 ∧ i = .int .i64 (k : Int) ∧ (∀ j, j < k → p j = n / 256 ^ j % 256) ∧ wr.heap[w.heap.size]? = some (.cells (numL n).toArray 25 (0, 0)) ∧ wr.heap[w.heap.size + 1]? = some (.cells (rowB p 32).toArray 83 (0, 0)) ∧ Below w.heap.size w wr) (fun i _ => 32 - (intOf i).toNat)
  case atStart => exact ⟨0, fun _ => 0, by omega, rfl, fun j h => absurd h (by omega), x0, x1, xb⟩
  case round =>
    clear x0 x1 xb
    obtain ⟨k, p, hk, rfl, hp, y0, y1, hb⟩ := hrel
    by_cases hlt : k < 32
    · have k1 : (k : Int) < 32 := by omega
      obtain ⟨Q, hQ⟩ : ∃ Q, k / 8 = Q := ⟨_, rfl⟩
      obtain ⟨r, hr⟩ : ∃ r, k % 8 = r := ⟨_, rfl⟩
      have t1 : (k : Int).tdiv 8 = (Q : Int) := by rw [Int.tdiv_eq_ediv_of_nonneg (by omega)]; omega
      have t2 : (k : Int).tmod 8 = (r : Int) := by rw [Int.tmod_eq_emod_of_nonneg (by omega)]; omega
      have d1 : (k : Int) / 8 = (Q : Int) := by omega
      have d2 : (k : Int) % 8 = (r : Int) := by omega
      have q4 : (Q : Int) < 4 := by omega
      have r4 : (r : Int) < 8 := by omega
      have n1 : (Q : Int).toNat = Q := by omega
      have n2 : (8 * (r : Int)).toNat = 8 * r := by omega
      have n3 : 8 * (r : Int) < 64 := by omega
      have hdg := wd_byte n k
      rw [hQ, hr] at hdg
      have c0 := (arr_get y0 (numL_get n Q (by omega))).1
      obtain ⟨c1, f1⟩ := arr_get y1 (rowB_get p 32 k hlt)
      have ps := shr_pow (wd n Q) (8 * r)
      obtain ⟨E, hE⟩ : ∃ E, n / 256 ^ k % 256 = E := ⟨_, rfl⟩
      rw [hE] at hdg
      have HSET := Lib.hid (arr_set (i := k) y1 (.int .u8 (E : Int)))
      have HP := Lib.hid hp
      have HY := Lib.hid y0
      have HD := Lib.hid hdg
      have HE := Lib.hid hE
      have hw := wd_lt n Q
      have hy : wd n Q / 2 ^ (8 * r) < 18446744073709551616 := Nat.lt_of_le_of_lt (Nat.div_le_self _ _) hw
      clear hp y0 y1 hdg hQ hr hE
      generalize wd n Q = x at *
      generalize x / 2 ^ (8 * r) = z at *
      generalize p k = u at c1
      go_wp2_with fail
      go_roundw
      case rel =>
        have e : (z : Int) % 256 = (E : Int) := by have := HD.out; omega
        rw [e]
        refine ⟨k + 1, upd p k E, by omega, by go_num, fun j hj => ?_, ?_, ?_, hb.setCell (p := ⟨w.heap.size + 1, k, none⟩) (by show w.heap.size ≤ w.heap.size + 1; omega) _⟩
        · unfold upd
          split
          · rename_i h; rw [h]; exact HE.out.symm
          · exact HP.out j (by omega)
        · exact (Below.heap_setCell wr ⟨w.heap.size + 1, k, none⟩ _ w.heap.size (by show w.heap.size ≠ w.heap.size + 1; omega)).trans HY.out
        · rw [← rowB_set]; exact HSET.out
      case measure => simp [intOf]; omega
    · obtain rfl : k = 32 := by omega
      have hc : ∀ j (hj : j < (byL n).length), wr.cell? ((⟨w.heap.size + 1, 0, none⟩ : Addr).add j) = some (.int .u8 ((byL n)[j].toNat : Int)) := fun j hj => by
        have hj' : j < 32 := by simpa [byL] using hj
        have hadd : (⟨w.heap.size + 1, 0, none⟩ : Addr).add j = ⟨w.heap.size + 1, j, none⟩ := by unfold Addr.add; split <;> simp_all
        rw [hadd, (arr_get y1 (rowB_get p 32 j hj')).1, hp j hj']
        simp [byL]
      have ks := run_convert_bytes_back (P := Try.prog) wr 84 9 5 ⟨w.heap.size + 1, 0, none⟩ 32 (byL n) Try.underlying84 Try.underlying5 Try.underlying9 hc
      rw [show (byL n).length = 32 by simp [byL]] at ks
      clear hp y0 y1 hc
      generalize hL : byL n = L at *
      have HL := Lib.hid hL
      clear hL
      go_wp2_with fail
      go_ret
      exact ⟨ret_str (by rw [HL.out]), hb⟩
end Go.Proofs.Ytmpbndhlnnfbfaa
