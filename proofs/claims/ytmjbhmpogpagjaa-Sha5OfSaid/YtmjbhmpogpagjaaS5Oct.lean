/- octet's Get64, for the hashes (layers 1 and 18). -/
import Derived.Test.YtmjbhmpogpagjaaOctB
import Derived.Test.YtmjbhmpogpagjaaOctC
import Derived.Test.YtmjbhmpogpagjaaS5B
namespace Go.Proofs.Ytmjbhmpogpagjaa
set_option maxRecDepth 20000
set_option linter.unusedSimpArgs false
set_option linter.unusedVariables false
open Go.RowKit
theorem byte_bd (b : UInt8) : 0 ≤ (b.toNat : Int) ∧ (b.toNat : Int) < 256 := by have := b.toNat_lt; omega
def getN (l : List UInt8) : Int := l.foldl (fun n b => n * 256 + (b.toNat : Int)) 0
def at8 (l : List UInt8) (k : Nat) : List UInt8 := (l.drop (8 * k)).take 8
theorem at8_eq (l : List UInt8) (k : Nat) (h : 8 * k + 8 ≤ l.length) : at8 l k = (List.range 8).map fun i => l.getD (8 * k + i) 0 := by
  apply List.ext_getElem
  · simp [at8]; omega
  · intro i h1 h2
    have hi : i < 8 := by simpa using h2
    have h3 : 8 * k + i < l.length := by omega
    simp [at8, h3]
theorem accG_get (B : Nat → UInt8) : accG (fun i => ((B i).toNat : Int)) 8 = getN ((List.range 8).map B) := by
  simp only [accG, getN, List.range_succ, List.range_zero, List.nil_append, List.map_append, List.map_cons, List.map_nil, List.foldl_append, List.foldl_cons, List.foldl_nil]
  simp
  omega
theorem flat_one {α β : Type} (f : α → β) : ∀ l : List α, l.flatMap (fun k => [f k]) = l.map f
  | [] => rfl
  | a :: l => by rw [List.flatMap_cons, flat_one f l]; rfl
theorem owns_base {w : World} {b b' : Nat} {e : TypeId} {size : Nat} {v : Value} {n : Nat} {xs : List Value} (h : w.ownsRow b e size v n xs) (hb : b' ≤ b) : w.ownsRow b' e size v n xs := by
  obtain ⟨h1, h2 | ⟨g, cap, cur, hv, hg, r⟩⟩ := h
  · exact ⟨h1, .inl h2⟩
  · exact ⟨h1, .inr ⟨g, cap, cur, hv, by omega, r⟩⟩
theorem get64_any (s : ByteArray) (w : World) (hs : s.size ≤ 10000) :
    Calls Try.prog 58 #[.string s] w fun e w' => ∃ v, e = .returned v ∧ w'.ownsRow w.heap.size 36 1 v (s.size / 8) ((List.range (s.size / 8)).map fun k => .int .u64 (getN (at8 s.data.toList k))) ∧ Below w.heap.size w w' := by
  have kb := fun (w : World) (s : ByteArray) => run_bytes_of_string (P := Try.prog) w 9 51 5 s Try.underlying9 Try.underlying51 Try.underlying5
  have kg := grownCap_ge w s.size 0 5
  go_enter Try.func58, Try.ntmps58
  go_wp2_with fail
  generalize grownCap w s.size 0 5 = cap at kg ⊢
  have hlen : s.data.toList.length = s.size := Array.length_toList
  refine (recast_get64 1 (fun k => [.int .u64 (getN (at8 s.data.toList k))]) w.heap.size 0 s.size cap _ (fun i => bc (s.data.toList.getD i 0)) _ (fun _ => rfl) (fun _ => by simp) kg (by omega) (by omega)
    (by exact fun i hi => by rw [Nat.zero_add]; exact bytes_cells w s cap _ _ i hi) ?_).mono ?_
  · intro W v q xs k c hk hbase hown hcells hq
    refine (get641_any v q xs _ w.heap.size (0 + 8 * k) c (fun i => ((s.data.toList.getD (8 * k + i) 0).toNat : Int)) W hown hcells (fun i => byte_bd _) hq hbase).mono ?_
    rintro e w' ⟨v', rfl, ho, hb⟩
    rw [accG_get (fun i => s.data.toList.getD (8 * k + i) 0), ← at8_eq _ k (by omega)] at ho
    exact ⟨v', rfl, ho, hb⟩
  · rintro e w1 ⟨v', rfl, ho, hb⟩
    clear kb
    go_wp2_with fail
    go_ret
    rw [flat_one, Nat.mul_one] at ho
    exact ⟨v', rfl, owns_base ho (by simp), gr_step (below_drewN (gr_alloc (Below.refl _ _) _) 1) hb⟩
theorem getN_nat : ∀ (l : List UInt8) (n : Nat), l.foldl (fun (n : Int) b => n * 256 + (b.toNat : Int)) (n : Int) = ((l.foldl (fun n b => n * 256 + b.toNat) n : Nat) : Int)
  | [], n => rfl
  | b :: l, n => by
    show List.foldl _ ((n : Int) * 256 + (b.toNat : Int)) l = _
    rw [show (n : Int) * 256 + (b.toNat : Int) = ((n * 256 + b.toNat : Nat) : Int) by push_cast; rfl]
    exact getN_nat l _
theorem getN_be (l : List UInt8) : getN l = (beN l : Int) := getN_nat l 0
theorem at8_word (s : ByteArray) (t : Nat) : beN (at8 s.data.toList t) = blockW s t := by
  unfold blockW at8
  congr 1
  rw [ByteArray.data_extract, Array.toList_extract, List.extract_eq_take_drop]
  congr 1
  omega
def rowV (l : List Nat) : List Value := l.map fun x : Nat => Value.int .u64 (x : Int)
theorem get64_words (s : ByteArray) (w : World) (hs : s.size = 128) :
    Calls Try.prog 58 #[.string s] w fun e w' => ∃ v, e = .returned v ∧ w'.ownsRow w.heap.size 36 1 v 16 (rowV (blockM s 16)) ∧ Below w.heap.size w w' := by
  refine (get64_any s w (by omega)).mono ?_
  rintro e w' ⟨v, rfl, ho, hb⟩
  rw [hs] at ho
  refine ⟨v, rfl, ?_, hb⟩
  have e1 : (List.range (128 / 8)).map (fun k => Value.int .u64 (getN (at8 s.data.toList k))) = rowV (blockM s 16) := by
    unfold rowV blockM
    rw [List.map_map]
    refine List.map_congr_left fun k _ => ?_
    show Value.int .u64 (getN (at8 s.data.toList k)) = Value.int .u64 (blockW s k : Int)
    rw [getN_be, at8_word]
  rw [e1] at ho
  exact ho
end Go.Proofs.Ytmjbhmpogpagjaa
