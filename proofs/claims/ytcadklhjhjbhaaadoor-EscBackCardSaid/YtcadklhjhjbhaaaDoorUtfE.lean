/- The reference's Is, Form, loose (layer 3): what they answer. -/
import Derived.Test.YtcadklhjhjbhaaaDoorUtfD
namespace Go.Proofs.YtcadklhjhjbhaaaDoor
set_option maxRecDepth 20000
set_option linter.unusedSimpArgs false
set_option linter.unusedVariables false
open Go.RowKit Go.Lib
theorem is_yes (n : Nat) (w : World) (h : isCp n) : Calls Tryd.prog 54 #[.int .i64 (n : Int)] w fun e w' => e = .returned (.bool true) ∧ w = w' := by
  obtain ⟨h1, h2⟩ := h
  have i1 : (n : Int) ≤ 1114111 := by omega
  rcases h2 with h2 | h2
  · have i2 : (n : Int) < 55296 := by omega
    clear h1 h2
    go_enter Tryd.func54, Tryd.ntmps54
    go_wp2_with fail
    go_ret
    exact ⟨rfl, rfl⟩
  · have i2 : ¬ (n : Int) < 55296 := by omega
    have i3 : (57343 : Int) < (n : Int) := by omega
    clear h1 h2
    go_enter Tryd.func54, Tryd.ntmps54
    go_wp2_with fail
    go_ret
    exact ⟨rfl, rfl⟩
theorem is_no (n : Nat) (w : World) (h : ¬ isCp n) : Calls Tryd.prog 54 #[.int .i64 (n : Int)] w fun e w' => e = .returned (.bool false) ∧ w = w' := by
  have hh : 1114111 < n ∨ (n ≤ 1114111 ∧ 55296 ≤ n ∧ n ≤ 57343) := by
    unfold isCp at h
    omega
  clear h
  rcases hh with h1 | ⟨h1, h2, h3⟩
  · have i1 : ¬ (n : Int) ≤ 1114111 := by omega
    clear h1
    go_enter Tryd.func54, Tryd.ntmps54
    go_wp2_with fail
    go_ret
    exact ⟨rfl, rfl⟩
  · have i1 : (n : Int) ≤ 1114111 := by omega
    have i2 : ¬ (n : Int) < 55296 := by omega
    have i3 : ¬ (57343 : Int) < (n : Int) := by omega
    clear h1 h2 h3
    go_enter Tryd.func54, Tryd.ntmps54
    go_wp2_with fail
    go_ret
    exact ⟨rfl, rfl⟩
def strV (L : List UInt8) : Value := .string ⟨L.toArray⟩
theorem alloc_new (w : World) (o : Obj) : (w.alloc o).heap[w.heap.size]? = some o := World.alloc_heap_new w o
theorem arr_get {w : World} {b i : Nat} {t : TypeId} {L : List Value} {v : Value} (h : w.heap[b]? = some (.cells L.toArray t (0, 0))) (hi : L[i]? = some v) : w.cell? ⟨b, i, none⟩ = some v ∧ w.frozen? ⟨b, i, none⟩ = false :=
  ⟨by simp [World.cell?, h, hi], by simp [World.frozen?, h]⟩
/-- 'string([]byte{..})'. -/
theorem text_of (q : List Nat) (hq : ∀ x ∈ q, x < 256) (w : World) : (convert 51 9 (.slice (some ⟨w.heap.size, 0, none⟩) q.length q.length)).run Tryd.prog (w.alloc (.cells (q.map fun x : Nat => Value.int .u8 (x : Int)).toArray 5)) = .ok (strV (q.map UInt8.ofNat)) (w.alloc (.cells (q.map fun x : Nat => Value.int .u8 (x : Int)).toArray 5)) := by
  have h := run_convert_bytes_back (P := Tryd.prog) (w.alloc (.cells (q.map fun x : Nat => Value.int .u8 (x : Int)).toArray 5)) 51 9 5 ⟨w.heap.size, 0, none⟩ q.length (q.map UInt8.ofNat) Tryd.underlying51 Tryd.underlying5 Tryd.underlying9 (by
    intro k hk
    have hk2 : k < q.length := by simpa using hk
    have hadd : (⟨w.heap.size, 0, none⟩ : Addr).add k = ⟨w.heap.size, k, none⟩ := by unfold Addr.add; split <;> simp_all
    have hn := alloc_new w (.cells (q.map fun x : Nat => Value.int .u8 (x : Int)).toArray 5)
    rw [hadd, (arr_get (i := k) (v := .int .u8 (q[k] : Int)) hn (by rw [List.getElem?_map, List.getElem?_eq_getElem hk2]; rfl)).1]
    simp only [List.getElem_map]
    rw [UInt8.toNat_ofNat_of_lt' (hq _ (List.getElem_mem hk2))])
  rw [List.length_map] at h
  exact h
theorem form_of {n : Nat} {q : List Nat} (h : (form n).map UInt8.toNat = q) : q.map UInt8.ofNat = form n := by
  rw [← h, List.map_map]
  conv => rhs; rw [← List.map_id (form n)]
  refine List.map_congr_left fun b _ => ?_
  simp
set_option maxRecDepth 20000 in
theorem form_any (n : Nat) (w : World) (hn : isCp n) : Calls Tryd.prog 36 #[.int .i64 (n : Int)] w fun e w' => e = .returned (strV (form n)) ∧ Below w.heap.size w w' := by
  rcases form_cases hn with ⟨c1, e⟩ | ⟨c1, c2, e⟩ | ⟨c1, c2, c3, e⟩ | ⟨c1, c2, e⟩
  · have kt : (convert 51 9 (.slice (some ⟨w.heap.size, 0, none⟩) 1 1)).run Tryd.prog (w.alloc (.cells #[.int .u8 (n : Int)] 5)) = .ok (strV (form n)) (w.alloc (.cells #[.int .u8 (n : Int)] 5)) := by
      have h := text_of [n] (by simp; omega) w
      rw [form_of e] at h
      exact h
    have i1 : (n : Int) < 128 := by omega
    have i2 : IntKind.u8.wrap (n : Int) = (n : Int) := by rw [IntKind.wrap_u8']; omega
    have HB0 := Lib.hid ((Below.refl w.heap.size w).alloc (Nat.le_refl _) (.cells #[.int .u8 (n : Int)] 5))
    generalize form n = F at *
    clear e hn c1
    go_enter Tryd.func36, Tryd.ntmps36
    go_wp2_with fail
    go_ret
    exact ⟨rfl, HB0.out⟩
  · obtain ⟨a, ha⟩ : ∃ a, n / 64 = a := ⟨_, rfl⟩
    obtain ⟨b, hb⟩ : ∃ b, n % 64 = b := ⟨_, rfl⟩
    rw [ha, hb] at e
    have da : (n : Int) / 64 = (a : Int) := by omega
    have db : (n : Int) % 64 = (b : Int) := by omega
    have wa : IntKind.u8.wrap (192 + (a : Int)) = 192 + (a : Int) := by rw [IntKind.wrap_u8']; omega
    have wb : IntKind.u8.wrap (128 + (b : Int)) = 128 + (b : Int) := by rw [IntKind.wrap_u8']; omega
    have kt : (convert 51 9 (.slice (some ⟨w.heap.size, 0, none⟩) 2 2)).run Tryd.prog (w.alloc (.cells #[.int .u8 (192 + (a : Int)), .int .u8 (128 + (b : Int))] 5)) = .ok (strV (form n)) (w.alloc (.cells #[.int .u8 (192 + (a : Int)), .int .u8 (128 + (b : Int))] 5)) := by
      have h := text_of [192 + a, 128 + b] (by simp; omega) w
      rw [form_of e] at h
      exact h
    have i1 : ¬ (n : Int) < 128 := by omega
    have i2 : (n : Int) < 2048 := by omega
    have HB0 := Lib.hid ((Below.refl w.heap.size w).alloc (Nat.le_refl _) (.cells #[.int .u8 (192 + (a : Int)), .int .u8 (128 + (b : Int))] 5))
    generalize form n = F at *
    clear e hn ha hb
    go_enter Tryd.func36, Tryd.ntmps36
    go_wp2_with fail
    go_ret
    exact ⟨rfl, HB0.out⟩
  · obtain ⟨a, ha⟩ : ∃ a, n / 4096 = a := ⟨_, rfl⟩
    obtain ⟨b, hb⟩ : ∃ b, n / 64 % 64 = b := ⟨_, rfl⟩
    obtain ⟨c, hc⟩ : ∃ c, n % 64 = c := ⟨_, rfl⟩
    rw [ha, hb, hc] at e
    have da : (n : Int) / 4096 = (a : Int) := by omega
    have db : (n : Int) / 64 % 64 = (b : Int) := by omega
    have dc : (n : Int) % 64 = (c : Int) := by omega
    have wa : IntKind.u8.wrap (224 + (a : Int)) = 224 + (a : Int) := by rw [IntKind.wrap_u8']; omega
    have wb : IntKind.u8.wrap (128 + (b : Int)) = 128 + (b : Int) := by rw [IntKind.wrap_u8']; omega
    have wc : IntKind.u8.wrap (128 + (c : Int)) = 128 + (c : Int) := by rw [IntKind.wrap_u8']; omega
    have kt : (convert 51 9 (.slice (some ⟨w.heap.size, 0, none⟩) 3 3)).run Tryd.prog (w.alloc (.cells #[.int .u8 (224 + (a : Int)), .int .u8 (128 + (b : Int)), .int .u8 (128 + (c : Int))] 5)) = .ok (strV (form n)) (w.alloc (.cells #[.int .u8 (224 + (a : Int)), .int .u8 (128 + (b : Int)), .int .u8 (128 + (c : Int))] 5)) := by
      have h := text_of [224 + a, 128 + b, 128 + c] (by simp; omega) w
      rw [form_of e] at h
      exact h
    have i1 : ¬ (n : Int) < 128 := by omega
    have i2 : ¬ (n : Int) < 2048 := by omega
    have i3 : (n : Int) < 65536 := by omega
    have HB0 := Lib.hid ((Below.refl w.heap.size w).alloc (Nat.le_refl _) (.cells #[.int .u8 (224 + (a : Int)), .int .u8 (128 + (b : Int)), .int .u8 (128 + (c : Int))] 5))
    generalize form n = F at *
    clear e hn ha hb hc
    go_enter Tryd.func36, Tryd.ntmps36
    go_wp2_with fail
    go_ret
    exact ⟨rfl, HB0.out⟩
  · obtain ⟨a, ha⟩ : ∃ a, n / 262144 = a := ⟨_, rfl⟩
    obtain ⟨b, hb⟩ : ∃ b, n / 4096 % 64 = b := ⟨_, rfl⟩
    obtain ⟨c, hc⟩ : ∃ c, n / 64 % 64 = c := ⟨_, rfl⟩
    obtain ⟨d, hd⟩ : ∃ d, n % 64 = d := ⟨_, rfl⟩
    rw [ha, hb, hc, hd] at e
    have da : (n : Int) / 262144 = (a : Int) := by omega
    have db : (n : Int) / 4096 % 64 = (b : Int) := by omega
    have dc : (n : Int) / 64 % 64 = (c : Int) := by omega
    have dd : (n : Int) % 64 = (d : Int) := by omega
    have wa : IntKind.u8.wrap (240 + (a : Int)) = 240 + (a : Int) := by rw [IntKind.wrap_u8']; omega
    have wb : IntKind.u8.wrap (128 + (b : Int)) = 128 + (b : Int) := by rw [IntKind.wrap_u8']; omega
    have wc : IntKind.u8.wrap (128 + (c : Int)) = 128 + (c : Int) := by rw [IntKind.wrap_u8']; omega
    have wd : IntKind.u8.wrap (128 + (d : Int)) = 128 + (d : Int) := by rw [IntKind.wrap_u8']; omega
    have kt : (convert 51 9 (.slice (some ⟨w.heap.size, 0, none⟩) 4 4)).run Tryd.prog (w.alloc (.cells #[.int .u8 (240 + (a : Int)), .int .u8 (128 + (b : Int)), .int .u8 (128 + (c : Int)), .int .u8 (128 + (d : Int))] 5)) = .ok (strV (form n)) (w.alloc (.cells #[.int .u8 (240 + (a : Int)), .int .u8 (128 + (b : Int)), .int .u8 (128 + (c : Int)), .int .u8 (128 + (d : Int))] 5)) := by
      have h := text_of [240 + a, 128 + b, 128 + c, 128 + d] (by simp; omega) w
      rw [form_of e] at h
      exact h
    have i1 : ¬ (n : Int) < 128 := by omega
    have i2 : ¬ (n : Int) < 2048 := by omega
    have i3 : ¬ (n : Int) < 65536 := by omega
    have i4 : (n : Int) ≤ 1114111 := by omega
    have HB0 := Lib.hid ((Below.refl w.heap.size w).alloc (Nat.le_refl _) (.cells #[.int .u8 (240 + (a : Int)), .int .u8 (128 + (b : Int)), .int .u8 (128 + (c : Int)), .int .u8 (128 + (d : Int))] 5))
    generalize form n = F at *
    clear e hn ha hb hc hd
    go_enter Tryd.func36, Tryd.ntmps36
    go_wp2_with fail
    go_ret
    exact ⟨rfl, HB0.out⟩
/-- The number that some bytes would be the form of: the first byte without its marks; six bits of each other one. -/
def lo0 (t : List UInt8) : Nat := if t.length = 2 then (t.getD 0 0).toNat % 32 else if t.length = 3 then (t.getD 0 0).toNat % 16 else if t.length = 4 then (t.getD 0 0).toNat % 8 else (t.getD 0 0).toNat
def loA (t : List UInt8) : Nat → Nat
  | 0 => lo0 t
  | i + 1 => 64 * loA t i + (t.getD (i + 1) 0).toNat % 64
def looseN (t : List UInt8) : Nat := loA t (t.length - 1)
theorem lo0_lt (t : List UInt8) : lo0 t < 256 := by
  have := UInt8.toNat_lt (t.getD 0 0)
  unfold lo0
  split
  · omega
  · split
    · omega
    · split <;> omega
theorem loA_lt (t : List UInt8) : ∀ i, loA t i < 256 * 64 ^ i
  | 0 => by have := lo0_lt t; simpa [loA] using this
  | i + 1 => by
    have h := loA_lt t i
    show 64 * loA t i + _ < _
    rw [Nat.pow_succ]
    have e : 256 * (64 ^ i * 64) = 64 * (256 * 64 ^ i) := by rw [← Nat.mul_assoc, Nat.mul_comm]
    rw [e]
    generalize 256 * 64 ^ i = P at *
    omega
theorem byte_of {t : ByteArray} {i : Nat} (h : i < t.size) : ((t[i]'h).toNat : Int) = (((t.data.toList.getD i 0).toNat : Nat) : Int) := by
  have h2 : i < t.data.toList.length := by rw [← Lib.size_eq t]; exact h
  have e : t[i]'h = t.data.toList[i]'h2 := rfl
  rw [e, List.getD_eq_getElem?_getD, List.getElem?_eq_getElem h2]
  rfl
theorem lo0_of {T : ByteArray} {N x c : Nat} (hN : T.size = N) (hx : (T.data.toList.getD 0 0).toNat = x) (h : c = if N = 2 then x % 32 else if N = 3 then x % 16 else if N = 4 then x % 8 else x) : c = loA T.data.toList 0 := by
  show c = lo0 _
  have hl : T.data.toList.length = N := by rw [← hN]; exact (Lib.size_eq T).symm
  unfold lo0
  rw [hl, hx, h]
set_option maxHeartbeats 2000000 in
theorem loose_any (T : ByteArray) (w : World) (h1 : 1 ≤ T.size) (h4 : T.size ≤ 4) : Calls Tryd.prog 53 #[.string T] w fun e w' => e = .returned (.int .i64 (looseN T.data.toList : Int)) ∧ w = w' := by
  obtain ⟨N, hN⟩ : ∃ N, T.size = N := ⟨_, rfl⟩
  obtain ⟨x, hx⟩ : ∃ x, (T.data.toList.getD 0 0).toNat = x := ⟨_, rfl⟩
  have b0 : ((T[0]'(by omega)).toNat : Int) = (x : Int) := by rw [byte_of, hx]
  have hx9 : x < 256 := by rw [← hx]; exact UInt8.toNat_lt _
  obtain ⟨c0, hc0⟩ : ∃ c0, (if N = 2 then x % 32 else if N = 3 then x % 16 else if N = 4 then x % 8 else x) = c0 := ⟨_, rfl⟩
  have HC := Lib.hid (lo0_of hN hx hc0.symm)
  have HL : Hid (looseN T.data.toList = loA T.data.toList (N - 1)) := by
    show _ = _
    unfold looseN
    rw [show T.data.toList.length = N by rw [← hN]; exact (Lib.size_eq T).symm]
  have hb9 : Hid (∀ i, (hi : i < T.size) → ∃ y : Nat, y < 256 ∧ ((T[i]'hi).toNat : Int) = (y : Int) ∧ loA T.data.toList i = loA T.data.toList i ∧ ∀ j, i = j + 1 → loA T.data.toList (j + 1) = 64 * loA T.data.toList j + y % 64) := fun i hi => ⟨(T.data.toList.getD i 0).toNat, UInt8.toNat_lt _, byte_of hi, rfl, fun j hj => by subst hj; rfl⟩
  have hLT := Lib.hid (loA_lt T.data.toList)
  clear hx
  generalize loA T.data.toList = A at *
  have hc : N = 1 ∨ N = 2 ∨ N = 3 ∨ N = 4 := by omega
  have fin : Hid (∀ c i : Nat, c = A i → i + 1 = N → looseN T.data.toList = c) := by
    intro c i h1 h2
    rw [HL.out, h1, show N - 1 = i by omega]

  have HN := Lib.hid hN
  clear HL
  have e2 : N = 2 → (x : Int).tmod 32 = (c0 : Int) := fun h => by rw [h] at hc0; simp at hc0; rw [Int.tmod_eq_emod_of_nonneg (by omega)]; omega
  have e3 : N = 3 → (x : Int).tmod 16 = (c0 : Int) := fun h => by rw [h] at hc0; simp at hc0; rw [Int.tmod_eq_emod_of_nonneg (by omega)]; omega
  have e4 : N = 4 → (x : Int).tmod 8 = (c0 : Int) := fun h => by rw [h] at hc0; simp at hc0; rw [Int.tmod_eq_emod_of_nonneg (by omega)]; omega
  have e1 : N = 1 → x = c0 := fun h => by rw [h] at hc0; simpa using hc0
  clear hc0
  rcases hc with rfl | rfl | rfl | rfl
  · have q := e1 rfl
    subst q
    clear e1 e2 e3 e4
    go_enter Tryd.func53, Tryd.ntmps53
    go_wp2_with fail
    go_loopw [3, 4] (fun u v W => ∃ k : Nat, k + 1 ≤ 1 ∧ u = .int .i64 (A k : Int) ∧ v = .int .i64 ((k + 1 : Nat) : Int) ∧ W = w) (fun _ v _ => 1 - (Go.RowKit.intOf v).toNat)
    case atStart => exact ⟨0, by omega, by rw [← HC.out], rfl, rfl⟩
    case round =>
      obtain ⟨k, hk, rfl, rfl, rfl⟩ := hrel
      by_cases hkl : k + 1 < 1
      · obtain ⟨y, hy, hby, _, hst⟩ := hb9.out (k + 1) (by omega)
        have hs := hst k rfl
        have hA := hLT.out k
        have hp : 64 ^ k ≤ 64 ^ 2 := Nat.pow_le_pow_right (by decide) (by omega)
        have hA2 : A k < 1048576 := by omega
        obtain ⟨z, hz⟩ : ∃ z, y % 64 = z := ⟨_, rfl⟩
        have hz9 : z < 64 := by omega
        have qz : (y : Int).tmod 64 = (z : Int) := by rw [Int.tmod_eq_emod_of_nonneg (by omega)]; omega
        have HS := Lib.hid (show A (k + 1) = 64 * A k + z by rw [hs, hz])
        have hkl' : (k : Int) + 1 < 1 := by omega
        generalize A k = ak at *
        clear hs hst hA hp hz
        go_wp2_with fail
        go_roundw
        case rel => exact ⟨k + 1, by omega, congrArg (Value.int .i64) (by rw [HS.out]; omega), congrArg (Value.int .i64) (by omega), trivial⟩
        case measure =>
          simp [Go.RowKit.intOf]
          omega
      · have hkl' : ¬ (k : Int) + 1 < 1 := by omega
        have HF := Lib.hid (fin.out (A k) k rfl (by omega))
        go_wp2_with fail
        go_ret
        exact ⟨by rw [HF.out]; rfl, rfl⟩
  · have q := e2 rfl
    clear e1 e2 e3 e4
    go_enter Tryd.func53, Tryd.ntmps53
    go_wp2_with fail
    go_loopw [3, 4] (fun u v W => ∃ k : Nat, k + 1 ≤ 2 ∧ u = .int .i64 (A k : Int) ∧ v = .int .i64 ((k + 1 : Nat) : Int) ∧ W = w) (fun _ v _ => 2 - (Go.RowKit.intOf v).toNat)
    case atStart => exact ⟨0, by omega, by rw [← HC.out], rfl, rfl⟩
    case round =>
      obtain ⟨k, hk, rfl, rfl, rfl⟩ := hrel
      by_cases hkl : k + 1 < 2
      · obtain ⟨y, hy, hby, _, hst⟩ := hb9.out (k + 1) (by omega)
        have hs := hst k rfl
        have hA := hLT.out k
        have hp : 64 ^ k ≤ 64 ^ 2 := Nat.pow_le_pow_right (by decide) (by omega)
        have hA2 : A k < 1048576 := by omega
        obtain ⟨z, hz⟩ : ∃ z, y % 64 = z := ⟨_, rfl⟩
        have hz9 : z < 64 := by omega
        have qz : (y : Int).tmod 64 = (z : Int) := by rw [Int.tmod_eq_emod_of_nonneg (by omega)]; omega
        have HS := Lib.hid (show A (k + 1) = 64 * A k + z by rw [hs, hz])
        have hkl' : (k : Int) + 1 < 2 := by omega
        generalize A k = ak at *
        clear hs hst hA hp hz
        go_wp2_with fail
        go_roundw
        case rel => exact ⟨k + 1, by omega, congrArg (Value.int .i64) (by rw [HS.out]; omega), congrArg (Value.int .i64) (by omega), trivial⟩
        case measure =>
          simp [Go.RowKit.intOf]
          omega
      · have hkl' : ¬ (k : Int) + 1 < 2 := by omega
        have HF := Lib.hid (fin.out (A k) k rfl (by omega))
        go_wp2_with fail
        go_ret
        exact ⟨by rw [HF.out]; rfl, rfl⟩
  · have q := e3 rfl
    clear e1 e2 e3 e4
    go_enter Tryd.func53, Tryd.ntmps53
    go_wp2_with fail
    go_loopw [3, 4] (fun u v W => ∃ k : Nat, k + 1 ≤ 3 ∧ u = .int .i64 (A k : Int) ∧ v = .int .i64 ((k + 1 : Nat) : Int) ∧ W = w) (fun _ v _ => 3 - (Go.RowKit.intOf v).toNat)
    case atStart => exact ⟨0, by omega, by rw [← HC.out], rfl, rfl⟩
    case round =>
      obtain ⟨k, hk, rfl, rfl, rfl⟩ := hrel
      by_cases hkl : k + 1 < 3
      · obtain ⟨y, hy, hby, _, hst⟩ := hb9.out (k + 1) (by omega)
        have hs := hst k rfl
        have hA := hLT.out k
        have hp : 64 ^ k ≤ 64 ^ 2 := Nat.pow_le_pow_right (by decide) (by omega)
        have hA2 : A k < 1048576 := by omega
        obtain ⟨z, hz⟩ : ∃ z, y % 64 = z := ⟨_, rfl⟩
        have hz9 : z < 64 := by omega
        have qz : (y : Int).tmod 64 = (z : Int) := by rw [Int.tmod_eq_emod_of_nonneg (by omega)]; omega
        have HS := Lib.hid (show A (k + 1) = 64 * A k + z by rw [hs, hz])
        have hkl' : (k : Int) + 1 < 3 := by omega
        generalize A k = ak at *
        clear hs hst hA hp hz
        go_wp2_with fail
        go_roundw
        case rel => exact ⟨k + 1, by omega, congrArg (Value.int .i64) (by rw [HS.out]; omega), congrArg (Value.int .i64) (by omega), trivial⟩
        case measure =>
          simp [Go.RowKit.intOf]
          omega
      · have hkl' : ¬ (k : Int) + 1 < 3 := by omega
        have HF := Lib.hid (fin.out (A k) k rfl (by omega))
        go_wp2_with fail
        go_ret
        exact ⟨by rw [HF.out]; rfl, rfl⟩
  · have q := e4 rfl
    clear e1 e2 e3 e4
    go_enter Tryd.func53, Tryd.ntmps53
    go_wp2_with fail
    go_loopw [3, 4] (fun u v W => ∃ k : Nat, k + 1 ≤ 4 ∧ u = .int .i64 (A k : Int) ∧ v = .int .i64 ((k + 1 : Nat) : Int) ∧ W = w) (fun _ v _ => 4 - (Go.RowKit.intOf v).toNat)
    case atStart => exact ⟨0, by omega, by rw [← HC.out], rfl, rfl⟩
    case round =>
      obtain ⟨k, hk, rfl, rfl, rfl⟩ := hrel
      by_cases hkl : k + 1 < 4
      · obtain ⟨y, hy, hby, _, hst⟩ := hb9.out (k + 1) (by omega)
        have hs := hst k rfl
        have hA := hLT.out k
        have hp : 64 ^ k ≤ 64 ^ 2 := Nat.pow_le_pow_right (by decide) (by omega)
        have hA2 : A k < 1048576 := by omega
        obtain ⟨z, hz⟩ : ∃ z, y % 64 = z := ⟨_, rfl⟩
        have hz9 : z < 64 := by omega
        have qz : (y : Int).tmod 64 = (z : Int) := by rw [Int.tmod_eq_emod_of_nonneg (by omega)]; omega
        have HS := Lib.hid (show A (k + 1) = 64 * A k + z by rw [hs, hz])
        have hkl' : (k : Int) + 1 < 4 := by omega
        generalize A k = ak at *
        clear hs hst hA hp hz
        go_wp2_with fail
        go_roundw
        case rel => exact ⟨k + 1, by omega, congrArg (Value.int .i64) (by rw [HS.out]; omega), congrArg (Value.int .i64) (by omega), trivial⟩
        case measure =>
          simp [Go.RowKit.intOf]
          omega
      · have hkl' : ¬ (k : Int) + 1 < 4 := by omega
        have HF := Lib.hid (fin.out (A k) k rfl (by omega))
        go_wp2_with fail
        go_ret
        exact ⟨by rw [HF.out]; rfl, rfl⟩
end Go.Proofs.YtcadklhjhjbhaaaDoor
