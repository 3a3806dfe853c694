/- Words as bytes: what Put32, Put64 and Little answer. -/
import Derived.Test.YtoccoagkakeenaaOctG
namespace Go.Proofs.Ytoccoagkakeenaa
open Go.RowKit
/-- The bytes of words. -/
def put4 (x : Int) : List UInt8 := [ofI (x / 16777216 % 256), ofI (x / 65536 % 256), ofI (x / 256 % 256), ofI (x % 256)]
def put8 (x : Int) : List UInt8 := (List.range 8).map fun i => ofI (x / 2 ^ (56 - 8 * i) % 256)
def lit8 (x : Int) : List UInt8 := (List.range 8).map fun i => ofI (x / 2 ^ (8 * i) % 256)
theorem bc_mod (z : Int) : bc (ofI (z % 256)) = .int .u8 (z % 256) := bc_ofI _ (by omega) (by omega)
theorem put4_cells (x : Int) : [Value.int .u8 (x / 16777216 % 256), Value.int .u8 (x / 65536 % 256), Value.int .u8 (x / 256 % 256), Value.int .u8 (x % 256)] = (put4 x).map bc := by
  unfold put4
  simp only [List.map_cons, List.map_nil, bc_mod]
theorem put8_cells (x : Int) : ((List.range 8).map fun i => Value.int .u8 (x / 2 ^ (56 - 8 * i) % 256)) = (put8 x).map bc := by
  unfold put8
  rw [List.map_map]
  apply List.map_congr_left
  intro i _
  exact (bc_mod _).symm
theorem lit8_cells (x : Int) : ((List.range 8).map fun i => Value.int .u8 (x / 2 ^ (8 * i) % 256)) = (lit8 x).map bc := by
  unfold lit8
  rw [List.map_map]
  apply List.map_congr_left
  intro i _
  exact (bc_mod _).symm
theorem put32_call (bl off n cap : Nat) (A0 : Option Addr) (X : Nat → Int) (w : World) (hA : 1 ≤ n → A0 = some ⟨bl, off, none⟩) (hbl : 1 ≤ n → bl < w.heap.size) (hcap : n ≤ cap) (hn : n ≤ 10000)
    (hcell : ∀ i, i < n → w.cell? ⟨bl, off + i, none⟩ = some (.int .u32 (X i))) :
    Calls Try.prog 13 #[.slice A0 n cap] w fun e w' => e = .returned (.string ⟨((List.range n).flatMap fun k => put4 (X k)).toArray⟩) ∧ Below w.heap.size w w' := by
  have HA := Lib.hid hA
  have HB := Lib.hid hbl
  have HC := Lib.hid hcell
  clear hA hbl hcell
  go_enter Try.func13, Try.ntmps13
  go_wp2_with fail
  refine (recast_put32 4 (fun k => (put4 (X k)).map bc) bl off n cap A0 (fun i => .int .u32 (X i)) w HA.out HB.out hcap (by omega) (by omega) HC.out ?_).mono ?_
  · intro W v q xs k c hk hbase hown hcells hq
    refine (put321_any v q xs _ bl (off + k) 1 c (X k) W (by omega) hown (hcells 0 (by omega)) hq hbase (HB.out (by omega))).mono ?_
    rintro e w' ⟨v', rfl, ho, hb⟩
    rw [put4_cells] at ho
    exact ⟨v', rfl, ho, hb⟩
  · rintro e w1 ⟨v', rfl, ho, hb⟩
    have hL : (List.range n).flatMap (fun k => (put4 (X k)).map bc) = ((List.range n).flatMap fun k => put4 (X k)).map bc := by simp [List.map_flatMap]
    rw [hL] at ho
    have ks := own_string (P := Try.prog) (t := 42) (ty := 9) Try.underlying42 Try.underlying5 Try.underlying9 ho
    clear hL
    go_wp2_with fail
    go_ret
    exact ⟨rfl, hb⟩
theorem put64_call (bl off n cap : Nat) (A0 : Option Addr) (X : Nat → Int) (w : World) (hA : 1 ≤ n → A0 = some ⟨bl, off, none⟩) (hbl : 1 ≤ n → bl < w.heap.size) (hcap : n ≤ cap) (hn : n ≤ 10000)
    (hcell : ∀ i, i < n → w.cell? ⟨bl, off + i, none⟩ = some (.int .u64 (X i))) :
    Calls Try.prog 14 #[.slice A0 n cap] w fun e w' => e = .returned (.string ⟨((List.range n).flatMap fun k => put8 (X k)).toArray⟩) ∧ Below w.heap.size w w' := by
  have HA := Lib.hid hA
  have HB := Lib.hid hbl
  have HC := Lib.hid hcell
  clear hA hbl hcell
  go_enter Try.func14, Try.ntmps14
  go_wp2_with fail
  refine (recast_put64 8 (fun k => (put8 (X k)).map bc) bl off n cap A0 (fun i => .int .u64 (X i)) w HA.out HB.out hcap (by omega) (by omega) HC.out ?_).mono ?_
  · intro W v q xs k c hk hbase hown hcells hq
    refine (put641_any v q xs _ bl (off + k) 1 c (X k) W (by omega) hown (hcells 0 (by omega)) hq hbase (HB.out (by omega))).mono ?_
    rintro e w' ⟨v', rfl, ho, hb⟩
    rw [put8_cells] at ho
    exact ⟨v', rfl, ho, hb⟩
  · rintro e w1 ⟨v', rfl, ho, hb⟩
    have hL : (List.range n).flatMap (fun k => (put8 (X k)).map bc) = ((List.range n).flatMap fun k => put8 (X k)).map bc := by simp [List.map_flatMap]
    rw [hL] at ho
    have ks := own_string (P := Try.prog) (t := 42) (ty := 9) Try.underlying42 Try.underlying5 Try.underlying9 ho
    clear hL
    go_wp2_with fail
    go_ret
    exact ⟨rfl, hb⟩
theorem little_call (bl off n cap : Nat) (A0 : Option Addr) (X : Nat → Int) (w : World) (hA : 1 ≤ n → A0 = some ⟨bl, off, none⟩) (hbl : 1 ≤ n → bl < w.heap.size) (hcap : n ≤ cap) (hn : n ≤ 10000)
    (hcell : ∀ i, i < n → w.cell? ⟨bl, off + i, none⟩ = some (.int .u64 (X i))) :
    Calls Try.prog 15 #[.slice A0 n cap] w fun e w' => e = .returned (.string ⟨((List.range n).flatMap fun k => lit8 (X k)).toArray⟩) ∧ Below w.heap.size w w' := by
  have HA := Lib.hid hA
  have HB := Lib.hid hbl
  have HC := Lib.hid hcell
  clear hA hbl hcell
  go_enter Try.func15, Try.ntmps15
  go_wp2_with fail
  refine (recast_little 8 (fun k => (lit8 (X k)).map bc) bl off n cap A0 (fun i => .int .u64 (X i)) w HA.out HB.out hcap (by omega) (by omega) HC.out ?_).mono ?_
  · intro W v q xs k c hk hbase hown hcells hq
    refine (little1_any v q xs _ bl (off + k) 1 c (X k) W (by omega) hown (hcells 0 (by omega)) hq hbase (HB.out (by omega))).mono ?_
    rintro e w' ⟨v', rfl, ho, hb⟩
    rw [lit8_cells] at ho
    exact ⟨v', rfl, ho, hb⟩
  · rintro e w1 ⟨v', rfl, ho, hb⟩
    have hL : (List.range n).flatMap (fun k => (lit8 (X k)).map bc) = ((List.range n).flatMap fun k => lit8 (X k)).map bc := by simp [List.map_flatMap]
    rw [hL] at ho
    have ks := own_string (P := Try.prog) (t := 42) (ty := 9) Try.underlying42 Try.underlying5 Try.underlying9 ho
    clear hL
    go_wp2_with fail
    go_ret
    exact ⟨rfl, hb⟩
theorem one_cell (w : World) (x : Int) (t : TypeId) : ∀ i, i < 1 → (w.alloc (.cells #[.int .u32 x] t)).cell? ⟨w.heap.size, 0 + i, none⟩ = some (.int .u32 x) := fun i hi => by
  obtain rfl : i = 0 := by omega
  simp [go_sem]
theorem lives01 (w : World) :
    Calls Try.prog 6 #[] w fun e w' => e = .returned (.bool true) ∧ Below w.heap.size w w' := by
  have e1 : hexL [1, 171] = [48, 49, 97, 98] := by decide +kernel
  have e2 : (unhexE ⟨#[65, 66]⟩ == 6) = true := by decide +kernel
  go_enter Try.func6, Try.ntmps6
  go_wp2_with fail
  refine (unhex_even ⟨#[65, 66]⟩ _ 1 rfl (by omega)).mono ?_
  rintro e w1 ⟨rfl, hb1⟩
  go_wp2_with fail
  refine (hex_any ⟨#[1, 171]⟩ _ (by decide)).mono ?_
  rintro e w2 ⟨rfl, hb2⟩
  go_wp2_with fail
  refine (put32_call w2.heap.size 0 1 1 _ (fun _ => 258) _ (fun _ => rfl) (fun _ => by simp) (by omega) (by omega) (by exact one_cell w2 258 _)).mono ?_
  have hp : (List.range 1).flatMap (fun _ => put4 258) = [0, 0, 1, 2] := by decide +kernel
  rw [hp]
  rintro e w3 ⟨rfl, hb3⟩
  clear hp
  go_wp2_with fail
  go_ret
  refine ⟨rfl, gr_step (gr_alloc (gr_step (gr_step (Below.refl _ _) hb1) hb2) _) hb3⟩
theorem hexL_length : ∀ l : List UInt8, (hexL l).length = 2 * l.length
  | [] => rfl
  | b :: r => by
    have h := hexL_length r
    have e : (hexL (b :: r)).length = 2 + (hexL r).length := by show (hexB b ++ hexL r).length = _; simp [hexB]; omega
    rw [e, h, List.length_cons]; omega
theorem unhexS_hex (s : ByteArray) : unhexS ⟨(hexL s.data.toList).toArray⟩ = s ∧ unhexE ⟨(hexL s.data.toList).toArray⟩ = 0 := by
  obtain ⟨h1, h2⟩ := okP_hex s.data.toList
  refine ⟨?_, ?_⟩
  · simp only [unhexS, h1, h2]; rfl
  · simp only [unhexE, h1]; rfl
theorem unhex_all (s : ByteArray) (w : World) (hs : s.size ≤ 1000) :
    Calls Try.prog 7 #[.string s] w fun e w' => e = .returned (.tuple #[.string (unhexS s), .int .i64 (unhexE s)]) ∧ Below w.heap.size w w' := by
  by_cases h : s.size = 2 * (s.size / 2)
  · exact unhex_even s w (s.size / 2) h (by omega)
  · refine (unhex_odd s w (by omega) (s.size / 2) (by omega)).mono ?_
    rintro e w' ⟨rfl, rfl⟩
    have ho := okP_odd s.data.toList (s.size / 2) (by have h2 : s.data.toList.length = s.size := Array.length_toList; omega)
    exact ⟨ret_si (by simp only [unhexS, ho]; rfl) (by simp only [unhexE, ho]; rfl), Below.refl _ _⟩
theorem octetHex_walk (s t : ByteArray) (w : World) (_ws : s.size ≤ maxLen) (_wt : t.size ≤ maxLen) :
    Calls Try.prog 3 #[.string s, .string t] w fun e w' => e = .returned (.bool true) ∧ Below w.heap.size w w' := by
  by_cases h1 : 300 < s.size
  · have d1 : decide ((300 : Int) < (s.size : Int)) = true := by simp; omega
    go_enter Try.func3, Try.ntmps3
    go_wp2_with (go_at_call 6; refine (lives01 _).mono ?_; rintro e w' ⟨rfl, hb2⟩)
    go_ret
    exact ⟨rfl, hb2⟩
  by_cases h2 : 300 < t.size
  · have d1 : decide ((300 : Int) < (s.size : Int)) = false := by simp; omega
    have d2 : decide ((300 : Int) < (t.size : Int)) = true := by simp; omega
    go_enter Try.func3, Try.ntmps3
    go_wp2_with (go_at_call 6; refine (lives01 _).mono ?_; rintro e w' ⟨rfl, hb2⟩)
    go_ret
    exact ⟨rfl, hb2⟩
  have d1 : decide ((300 : Int) < (s.size : Int)) = false := by simp; omega
  have d2 : decide ((300 : Int) < (t.size : Int)) = false := by simp; omega
  have hsz : (⟨(hexL s.data.toList).toArray⟩ : ByteArray).size ≤ 1000 := by
    show (hexL s.data.toList).toArray.size ≤ _
    have h3 := hexL_length s.data.toList
    have h4 : s.data.toList.length = s.size := Array.length_toList
    simp only [List.size_toArray]
    omega
  have U := Lib.hid (unhexS_hex s)
  go_enter Try.func3, Try.ntmps3
  go_wp2_with fail
  refine (unhex_all t _ (by omega)).mono ?_
  rintro e w1 ⟨rfl, hb1⟩
  go_wp2_with fail
  refine (runhex_any t _ (by omega)).mono ?_
  rintro e w2 ⟨rfl, hb2⟩
  go_wp2_with fail
  refine (hex_any s _ (by omega)).mono ?_
  rintro e w3 ⟨rfl, hb3⟩
  go_wp2_with fail
  refine (unhex_all _ _ hsz).mono ?_
  rw [U.out.1, U.out.2]
  rintro e w4 ⟨rfl, hb4⟩
  go_wp2_with (first
    | (go_at_call 9; refine (hex_any s _ (by omega)).mono ?_; rintro e w5 ⟨rfl, hb5⟩)
    | (go_at_call 10; refine (rhex_any s _ (by omega)).mono ?_; rintro e w6 ⟨rfl, hb6⟩)
    | (go_at_call 6; refine (lives01 _).mono ?_; rintro e w7 ⟨rfl, hb7⟩))
  go_ret
  refine ⟨rfl, ?_⟩
  repeat (first | exact Below.refl _ _ | refine gr_step ?_ (by assumption))
end Go.Proofs.Ytoccoagkakeenaa
