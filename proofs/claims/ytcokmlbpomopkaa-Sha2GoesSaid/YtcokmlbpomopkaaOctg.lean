/- octet.Get32 alone (layer 1 in layer 17): what it answers. -/
import Derived.Test.YtcokmlbpomopkaaOctB
import Derived.Test.YtcokmlbpomopkaaShaB
namespace Go.Proofs.Ytcokmlbpomopkaa
set_option maxRecDepth 20000
open Go.RowKit
theorem byte_bd (b : UInt8) : 0 ≤ (b.toNat : Int) ∧ (b.toNat : Int) < 256 := by have := b.toNat_lt; omega
/-- The number of bytes, the highest one first. -/
def getN (l : List UInt8) : Int := l.foldl (fun n b => n * 256 + (b.toNat : Int)) 0
/-- The bytes of a text at a place. -/
def at4 (l : List UInt8) (k : Nat) : List UInt8 := (l.drop (4 * k)).take 4
theorem getN_4 (l : List UInt8) (k : Nat) (h : 4 * k + 4 ≤ l.length) :
    getN (at4 l k) = ((l.getD (4 * k) 0).toNat : Int) * 16777216 + ((l.getD (4 * k + 1) 0).toNat : Int) * 65536 + ((l.getD (4 * k + 2) 0).toNat : Int) * 256 + ((l.getD (4 * k + 3) 0).toNat : Int) := by
  unfold at4
  have e : l.drop (4 * k) = l[4 * k] :: l[4 * k + 1] :: l[4 * k + 2] :: l[4 * k + 3] :: l.drop (4 * k + 4) := by
    rw [List.drop_eq_getElem_cons (by omega), List.drop_eq_getElem_cons (by omega), List.drop_eq_getElem_cons (by omega), List.drop_eq_getElem_cons (by omega)]
  rw [e]
  have g : ∀ i (hi : i < l.length), l.getD i 0 = l[i] := fun i hi => by simp [hi]
  rw [g _ (by omega), g _ (by omega), g _ (by omega), g _ (by omega)]
  simp only [List.take_succ_cons, List.take_zero, getN, List.foldl_cons, List.foldl_nil]
  omega
theorem flat_one {α β : Type} (f : α → β) : ∀ l : List α, l.flatMap (fun k => [f k]) = l.map f
  | [] => rfl
  | a :: l => by rw [List.flatMap_cons, flat_one f l]; rfl
theorem owns_base {w : World} {b b' : Nat} {e : TypeId} {size : Nat} {v : Value} {n : Nat} {xs : List Value} (h : w.ownsRow b e size v n xs) (hb : b' ≤ b) : w.ownsRow b' e size v n xs := by
  obtain ⟨h1, h2 | ⟨g, cap, cur, hv, hg, r⟩⟩ := h
  · exact ⟨h1, .inl h2⟩
  · exact ⟨h1, .inr ⟨g, cap, cur, hv, by omega, r⟩⟩
theorem get32_any (s : ByteArray) (w : World) (hs : s.size ≤ 10000) :
    Calls Try.prog 59 #[.string s] w fun e w' => ∃ v, e = .returned v ∧ w'.ownsRow w.heap.size 36 1 v (s.size / 4) ((List.range (s.size / 4)).map fun k => .int .u32 (getN (at4 s.data.toList k))) ∧ Below w.heap.size w w' := by
  have kb := fun (w : World) (s : ByteArray) => run_bytes_of_string (P := Try.prog) w 9 54 5 s Try.underlying9 Try.underlying54 Try.underlying5
  have kg := grownCap_ge w s.size 0 5
  go_enter Try.func59, Try.ntmps59
  go_wp2_with fail
  generalize grownCap w s.size 0 5 = cap at kg ⊢
  have hlen : s.data.toList.length = s.size := Array.length_toList
  refine (recast_get32 1 (fun k => [.int .u32 (getN (at4 s.data.toList k))]) w.heap.size 0 s.size cap _ (fun i => bc (s.data.toList.getD i 0)) _ (fun _ => rfl) (fun _ => by simp) kg (by omega) (by omega)
    (by exact fun i hi => by rw [Nat.zero_add]; exact bytes_cells w s cap _ _ i hi) ?_).mono ?_
  · intro W v q xs k c hk hbase hown hcells hq
    have z := fun i => byte_bd (s.data.toList.getD i 0)
    refine (get321_any v q xs _ w.heap.size (0 + 4 * k) c _ _ _ _ W hown (hcells 0 (by omega)) (hcells 1 (by omega)) (hcells 2 (by omega)) (hcells 3 (by omega)) (z _).1 (z _).2 (z _).1 (z _).2 (z _).1 (z _).2 (z _).1 (z _).2 hq hbase (by simp)).mono ?_
    rintro e w' ⟨v', rfl, ho, hb⟩
    rw [getN_4 _ k (by omega)]
    exact ⟨v', rfl, ho, hb⟩
  · rintro e w1 ⟨v', rfl, ho, hb⟩
    clear kb
    go_wp2_with fail
    go_ret
    rw [flat_one, Nat.mul_one] at ho
    exact ⟨v', rfl, owns_base ho (by simp), gr_step (below_drewN (gr_alloc (Below.refl _ _) _) 1) hb⟩
theorem getN_nat : ∀ (l : List UInt8) (n : Nat), l.foldl (fun (n : Int) b => n * 256 + (b.toNat : Int)) (n : Int) = ((l.foldl (fun n b => n * 256 + b.toNat) n : Nat) : Int)
  | [], n => rfl
  | b :: l, n => by
    show List.foldl _ ((n : Int) * 256 + (b.toNat : Int)) l = _
    rw [show (n : Int) * 256 + (b.toNat : Int) = ((n * 256 + b.toNat : Nat) : Int) by push_cast; rfl]
    exact getN_nat l _
theorem getN_be (l : List UInt8) : getN l = (beN l : Int) := getN_nat l 0
theorem at4_word (s : ByteArray) (t : Nat) : beN (at4 s.data.toList t) = blockW s t := by
  unfold blockW at4
  congr 1
  rw [ByteArray.data_extract, Array.toList_extract, List.extract_eq_take_drop]
  congr 1
  omega
def rowV (l : List Nat) : List Value := l.map fun x : Nat => Value.int .u32 (x : Int)
theorem get32_words (s : ByteArray) (w : World) (hs : s.size = 64) :
    Calls Try.prog 59 #[.string s] w fun e w' => ∃ v, e = .returned v ∧ w'.ownsRow w.heap.size 36 1 v 16 (rowV (blockM s 16)) ∧ Below w.heap.size w w' := by
  refine (get32_any s w (by omega)).mono ?_
  rintro e w' ⟨v, rfl, ho, hb⟩
  rw [hs] at ho
  refine ⟨v, rfl, ?_, hb⟩
  have e1 : (List.range (64 / 4)).map (fun k => Value.int .u32 (getN (at4 s.data.toList k))) = rowV (blockM s 16) := by
    unfold rowV blockM
    rw [List.map_map]
    refine List.map_congr_left fun k _ => ?_
    show Value.int .u32 (getN (at4 s.data.toList k)) = Value.int .u32 (blockW s k : Int)
    rw [getN_be, at4_word]
  rw [e1] at ho
  exact ho
end Go.Proofs.Ytcokmlbpomopkaa
