/- octet's Hex and Put64, for the hashes (layers 1 and 18). -/
import Derived.Test.YtmjbhmpogpagjaaS5Oct
import Derived.Test.YtmjbhmpogpagjaaS5G
namespace Go.Proofs.Ytmjbhmpogpagjaa
set_option maxRecDepth 20000
set_option linter.unusedSimpArgs false
set_option linter.unusedVariables false
open Go.RowKit
/-- Two digits of each byte. -/
def hexB (b : UInt8) : List UInt8 := [ofI (hexd ((b.toNat : Int) / 16)), ofI (hexd ((b.toNat : Int) % 16))]
def hexL (l : List UInt8) : List UInt8 := l.flatMap hexB
theorem hexd_bd (x : Int) (x0 : 0 ≤ x) (x1 : x < 16) : 48 ≤ hexd x ∧ hexd x < 103 := by unfold hexd; split <;> omega
theorem hexB_cells (b : UInt8) : [Value.int .u8 (hexd ((b.toNat : Int) / 16)), Value.int .u8 (hexd ((b.toNat : Int) % 16))] = (hexB b).map bc := by
  obtain ⟨b0, b1⟩ := byte_bd b
  have h1 := hexd_bd ((b.toNat : Int) / 16) (by omega) (by omega)
  have h2 := hexd_bd ((b.toNat : Int) % 16) (by omega) (by omega)
  unfold hexB
  rw [List.map_cons, List.map_cons, List.map_nil, bc_ofI _ (by omega) (by omega), bc_ofI _ (by omega) (by omega)]
theorem range_flatMap {α : Type} (l : List UInt8) (f : UInt8 → List α) : ((List.range l.length).flatMap fun k => f (l.getD k 0)) = l.flatMap f := by
  have h : (List.range l.length).map (fun k => l.getD k 0) = l := by
    apply List.ext_getElem
    · simp
    · intro i h1 h2
      simp at h1
      simp [h1]
  rw [← List.flatMap_map, h]
theorem hex_any (s : ByteArray) (w : World) (hs : s.size ≤ 100000) :
    Calls Try.prog 13 #[.string s] w fun e w' => e = .returned (.string ⟨(hexL s.data.toList).toArray⟩) ∧ Below w.heap.size w w' := by
  have kb := fun (w : World) (s : ByteArray) => run_bytes_of_string (P := Try.prog) w 9 51 5 s Try.underlying9 Try.underlying51 Try.underlying5
  have kg := grownCap_ge w s.size 0 5
  go_enter Try.func13, Try.ntmps13
  go_wp2_with fail
  generalize grownCap w s.size 0 5 = cap at kg ⊢
  have hsz : s.data.toList.length = s.size := Array.length_toList
  refine (recast_hex 2 (fun k => (hexB (s.data.toList.getD k 0)).map bc) w.heap.size 0 s.size cap _ (fun i => bc (s.data.toList.getD i 0)) _ (fun _ => rfl) (fun _ => by simp) kg hs (by omega)
    (by exact fun i hi => by rw [Nat.zero_add]; exact bytes_cells w s cap _ _ i hi) ?_).mono ?_
  · intro W v q xs k c hk hbase hown hcells hq
    obtain ⟨b0, b1⟩ := byte_bd (s.data.toList.getD k 0)
    refine (hex1_any v q xs _ w.heap.size (0 + k) 1 c (s.data.toList.getD k 0).toNat W b0 b1 (by omega) hown (hcells 0 (by omega)) hq hbase (by simp)).mono ?_
    rintro e w' ⟨v', rfl, ho, hb⟩
    rw [hexB_cells] at ho
    exact ⟨v', rfl, ho, hb⟩
  · rintro e w1 ⟨v', rfl, ho, hb⟩
    have hL : (List.range s.size).flatMap (fun k => (hexB (s.data.toList.getD k 0)).map bc) = (hexL s.data.toList).map bc := by
      rw [← hsz, range_flatMap s.data.toList (fun b => (hexB b).map bc)]
      simp [hexL, List.map_flatMap]
    rw [hL] at ho
    have ks := own_string (P := Try.prog) (t := 51) (ty := 9) Try.underlying51 Try.underlying5 Try.underlying9 ho
    clear kb hL
    go_wp2_with fail
    go_ret
    exact ⟨rfl, gr_step (below_drewN (gr_alloc (Below.refl _ _) _) 1) hb⟩
/-- The bytes of a word. -/
def put8 (x : Int) : List UInt8 := (List.range 8).map fun i => ofI (x / 2 ^ (56 - 8 * i) % 256)
theorem put8_cells (x : Int) : ((List.range 8).map fun i => Value.int .u8 (x / 2 ^ (56 - 8 * i) % 256)) = (put8 x).map bc := by
  unfold put8
  rw [List.map_map]
  apply List.map_congr_left
  intro i _
  exact (bc_mod _).symm
theorem put64_call (bl off n cap : Nat) (A0 : Option Addr) (X : Nat → Int) (w : World) (hA : 1 ≤ n → A0 = some ⟨bl, off, none⟩) (hbl : 1 ≤ n → bl < w.heap.size) (hcap : n ≤ cap) (hn : n ≤ 10000)
    (hcell : ∀ i, i < n → w.cell? ⟨bl, off + i, none⟩ = some (.int .u64 (X i))) :
    Calls Try.prog 20 #[.slice A0 n cap] w fun e w' => e = .returned (.string ⟨((List.range n).flatMap fun k => put8 (X k)).toArray⟩) ∧ Below w.heap.size w w' := by
  have HA := Lib.hid hA
  have HB := Lib.hid hbl
  have HC := Lib.hid hcell
  clear hA hbl hcell
  go_enter Try.func20, Try.ntmps20
  go_wp2_with fail
  refine (recast_put64 8 (fun k => (put8 (X k)).map bc) bl off n cap A0 (fun i => .int .u64 (X i)) w HA.out HB.out hcap (by omega) (by omega) HC.out ?_).mono ?_
  · intro W v q xs k c hk hbase hown hcells hq
    refine (put641_any v q xs _ bl (off + k) 1 c (X k) W (by omega) hown (hcells 0 (by omega)) hq hbase (HB.out (by omega))).mono ?_
    rintro e w' ⟨v', rfl, ho, hb⟩
    rw [put8_cells] at ho
    exact ⟨v', rfl, ho, hb⟩
  · rintro e w1 ⟨v', rfl, ho, hb⟩
    have hL : (List.range n).flatMap (fun k => (put8 (X k)).map bc) = ((List.range n).flatMap fun k => put8 (X k)).map bc := by simp [List.map_flatMap]
    rw [hL] at ho
    have ks := own_string (P := Try.prog) (t := 51) (ty := 9) Try.underlying51 Try.underlying5 Try.underlying9 ho
    clear hL
    go_wp2_with fail
    go_ret
    exact ⟨rfl, hb⟩
theorem put8_putR (x : Int) : put8 x = putR x 8 := by simp [put8, putR, dk, List.range_succ]
theorem put8_dig (l : List Nat) (h : l.length = 8) : ((List.range 8).flatMap fun k => put8 (l.getD k 0 : Int)) = digL l := by
  simp only [put8_putR]
  match l, h with
  | [a, b, c, d, e, f, g, i], _ => rfl
/-- The digest of eight words that lie anywhere. -/
theorem put64_dig (bl off cap : Nat) (l : List Nat) (w : World) (h : l.length = 8) (hbl : bl < w.heap.size) (hcap : 8 ≤ cap) (hcell : ∀ i, i < 8 → w.cell? ⟨bl, off + i, none⟩ = some (.int .u64 (l.getD i 0 : Int))) :
    Calls Try.prog 20 #[.slice (some ⟨bl, off, none⟩) 8 cap] w fun e w' => e = .returned (strV (digL l)) ∧ Below w.heap.size w w' := by
  have K := put64_call bl off 8 cap (some ⟨bl, off, none⟩) (fun i => (l.getD i 0 : Int)) w (fun _ => rfl) (fun _ => hbl) hcap (by decide) hcell
  rw [put8_dig l h] at K
  exact K
end Go.Proofs.Ytmjbhmpogpagjaa
