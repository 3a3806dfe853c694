/- What octet's calls answer: contracts of layer 1. -/
import Derived.Test.YtoccoagkakeenaaOctB
import Derived.Test.YtoccoagkakeenaaOctC
namespace Go.Proofs.Ytoccoagkakeenaa
open Go.RowKit
/-- Two digits of each byte. -/
def hexB (b : UInt8) : List UInt8 := [ofI (hexd ((b.toNat : Int) / 16)), ofI (hexd ((b.toNat : Int) % 16))]
def hexL (l : List UInt8) : List UInt8 := l.flatMap hexB
theorem hexd_bd (x : Int) (x0 : 0 ≤ x) (x1 : x < 16) : 48 ≤ hexd x ∧ hexd x < 103 := by unfold hexd; split <;> omega
theorem byte_bd (b : UInt8) : 0 ≤ (b.toNat : Int) ∧ (b.toNat : Int) < 256 := by have := b.toNat_lt; omega
theorem hexB_cells (b : UInt8) : [Value.int .u8 (hexd ((b.toNat : Int) / 16)), Value.int .u8 (hexd ((b.toNat : Int) % 16))] = (hexB b).map bc := by
  obtain ⟨b0, b1⟩ := byte_bd b
  have h1 := hexd_bd ((b.toNat : Int) / 16) (by omega) (by omega)
  have h2 := hexd_bd ((b.toNat : Int) % 16) (by omega) (by omega)
  unfold hexB
  rw [List.map_cons, List.map_cons, List.map_nil, bc_ofI _ (by omega) (by omega), bc_ofI _ (by omega) (by omega)]
theorem range_flatMap {α : Type} (l : List UInt8) (f : UInt8 → List α) : ((List.range l.length).flatMap fun k => f (l.getD k 0)) = l.flatMap f := by
  have h : (List.range l.length).map (fun k => l.getD k 0) = l := by
    apply List.ext_getElem
    · simp
    · intro i h1 h2
      simp at h1
      simp [h1]
  rw [← List.flatMap_map, h]
theorem hex_any (s : ByteArray) (w : World) (hs : s.size ≤ 100000) :
    Calls Try.prog 9 #[.string s] w fun e w' => e = .returned (.string ⟨(hexL s.data.toList).toArray⟩) ∧ Below w.heap.size w w' := by
  have kb := fun (w : World) (s : ByteArray) => run_bytes_of_string (P := Try.prog) w 9 42 5 s Try.underlying9 Try.underlying42 Try.underlying5
  have kg := grownCap_ge w s.size 0 5
  go_enter Try.func9, Try.ntmps9
  go_wp2_with fail
  generalize grownCap w s.size 0 5 = cap at kg ⊢
  have hsz : s.data.toList.length = s.size := Array.length_toList
  refine (recast_hex 2 (fun k => (hexB (s.data.toList.getD k 0)).map bc) w.heap.size 0 s.size cap _ (fun i => bc (s.data.toList.getD i 0)) _ (fun _ => rfl) (fun _ => by simp) kg hs (by omega)
    (by exact fun i hi => by rw [Nat.zero_add]; exact bytes_cells w s cap _ _ i hi) ?_).mono ?_
  · intro W v q xs k c hk hbase hown hcells hq
    obtain ⟨b0, b1⟩ := byte_bd (s.data.toList.getD k 0)
    refine (hex1_any v q xs _ w.heap.size (0 + k) 1 c (s.data.toList.getD k 0).toNat W b0 b1 (by omega) hown (hcells 0 (by omega)) hq hbase (by simp)).mono ?_
    rintro e w' ⟨v', rfl, ho, hb⟩
    rw [hexB_cells] at ho
    exact ⟨v', rfl, ho, hb⟩
  · rintro e w1 ⟨v', rfl, ho, hb⟩
    have hL : (List.range s.size).flatMap (fun k => (hexB (s.data.toList.getD k 0)).map bc) = (hexL s.data.toList).map bc := by
      rw [← hsz, range_flatMap s.data.toList (fun b => (hexB b).map bc)]
      simp [hexL, List.map_flatMap]
    rw [hL] at ho
    have ks := own_string (P := Try.prog) (t := 42) (ty := 9) Try.underlying42 Try.underlying5 Try.underlying9 ho
    clear kb hL
    go_wp2_with fail
    go_ret
    exact ⟨rfl, gr_step (below_drewN (gr_alloc (Below.refl _ _) _) 1) hb⟩
end Go.Proofs.Ytoccoagkakeenaa
