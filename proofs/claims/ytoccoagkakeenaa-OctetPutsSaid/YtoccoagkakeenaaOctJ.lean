/- What Get32, Get64 and Low answer. -/
import Derived.Test.YtoccoagkakeenaaOctI
namespace Go.Proofs.Ytoccoagkakeenaa
open Go.RowKit
/-- The bytes of a text at a place. -/
def at4 (l : List UInt8) (k : Nat) : List UInt8 := (l.drop (4 * k)).take 4
def at8 (l : List UInt8) (k : Nat) : List UInt8 := (l.drop (8 * k)).take 8
theorem getN_4 (l : List UInt8) (k : Nat) (h : 4 * k + 4 ≤ l.length) :
    getN (at4 l k) = ((l.getD (4 * k) 0).toNat : Int) * 16777216 + ((l.getD (4 * k + 1) 0).toNat : Int) * 65536 + ((l.getD (4 * k + 2) 0).toNat : Int) * 256 + ((l.getD (4 * k + 3) 0).toNat : Int) := by
  unfold at4
  have e : l.drop (4 * k) = l[4 * k] :: l[4 * k + 1] :: l[4 * k + 2] :: l[4 * k + 3] :: l.drop (4 * k + 4) := by
    rw [List.drop_eq_getElem_cons (by omega), List.drop_eq_getElem_cons (by omega), List.drop_eq_getElem_cons (by omega), List.drop_eq_getElem_cons (by omega)]
  rw [e]
  have g : ∀ i (hi : i < l.length), l.getD i 0 = l[i] := fun i hi => by simp [hi]
  rw [g _ (by omega), g _ (by omega), g _ (by omega), g _ (by omega)]
  simp only [List.take_succ_cons, List.take_zero, getN, List.foldl_cons, List.foldl_nil]
  omega
theorem at8_eq (l : List UInt8) (k : Nat) (h : 8 * k + 8 ≤ l.length) : at8 l k = (List.range 8).map fun i => l.getD (8 * k + i) 0 := by
  apply List.ext_getElem
  · simp [at8]; omega
  · intro i h1 h2
    have hi : i < 8 := by simpa using h2
    have h3 : 8 * k + i < l.length := by omega
    simp [at8, h3]
theorem accG_get (B : Nat → UInt8) : accG (fun i => ((B i).toNat : Int)) 8 = getN ((List.range 8).map B) := by
  simp only [accG, getN, List.range_succ, List.range_zero, List.nil_append, List.map_append, List.map_cons, List.map_nil, List.foldl_append, List.foldl_cons, List.foldl_nil]
  simp
  omega
theorem accL_get (B : Nat → UInt8) : accL (fun i => ((B i).toNat : Int)) 8 = getN ((List.range 8).map B).reverse := by
  simp only [accL, getN, List.range_succ, List.range_zero, List.nil_append, List.map_append, List.map_cons, List.map_nil, List.reverse_append, List.reverse_cons, List.reverse_nil, List.foldl_append, List.foldl_cons, List.foldl_nil]
  simp
  omega
theorem flat_one {α β : Type} (f : α → β) : ∀ l : List α, l.flatMap (fun k => [f k]) = l.map f
  | [] => rfl
  | a :: l => by rw [List.flatMap_cons, flat_one f l]; rfl
theorem owns_base {w : World} {b b' : Nat} {e : TypeId} {size : Nat} {v : Value} {n : Nat} {xs : List Value} (h : w.ownsRow b e size v n xs) (hb : b' ≤ b) : w.ownsRow b' e size v n xs := by
  obtain ⟨h1, h2 | ⟨g, cap, cur, hv, hg, r⟩⟩ := h
  · exact ⟨h1, .inl h2⟩
  · exact ⟨h1, .inr ⟨g, cap, cur, hv, by omega, r⟩⟩
theorem get32_any (s : ByteArray) (w : World) (hs : s.size ≤ 10000) :
    Calls Try.prog 16 #[.string s] w fun e w' => ∃ v, e = .returned v ∧ w'.ownsRow w.heap.size 33 1 v (s.size / 4) ((List.range (s.size / 4)).map fun k => .int .u32 (getN (at4 s.data.toList k))) ∧ Below w.heap.size w w' := by
  have kb := fun (w : World) (s : ByteArray) => run_bytes_of_string (P := Try.prog) w 9 42 5 s Try.underlying9 Try.underlying42 Try.underlying5
  have kg := grownCap_ge w s.size 0 5
  go_enter Try.func16, Try.ntmps16
  go_wp2_with fail
  generalize grownCap w s.size 0 5 = cap at kg ⊢
  have hlen : s.data.toList.length = s.size := Array.length_toList
  refine (recast_get32 1 (fun k => [.int .u32 (getN (at4 s.data.toList k))]) w.heap.size 0 s.size cap _ (fun i => bc (s.data.toList.getD i 0)) _ (fun _ => rfl) (fun _ => by simp) kg (by omega) (by omega)
    (by exact fun i hi => by rw [Nat.zero_add]; exact bytes_cells w s cap _ _ i hi) ?_).mono ?_
  · intro W v q xs k c hk hbase hown hcells hq
    have z := fun i => byte_bd (s.data.toList.getD i 0)
    refine (get321_any v q xs _ w.heap.size (0 + 4 * k) c _ _ _ _ W hown (hcells 0 (by omega)) (hcells 1 (by omega)) (hcells 2 (by omega)) (hcells 3 (by omega)) (z _).1 (z _).2 (z _).1 (z _).2 (z _).1 (z _).2 (z _).1 (z _).2 hq hbase (by simp)).mono ?_
    rintro e w' ⟨v', rfl, ho, hb⟩
    rw [getN_4 _ k (by omega)]
    exact ⟨v', rfl, ho, hb⟩
  · rintro e w1 ⟨v', rfl, ho, hb⟩
    clear kb
    go_wp2_with fail
    go_ret
    rw [flat_one, Nat.mul_one] at ho
    exact ⟨v', rfl, owns_base ho (by simp), gr_step (below_drewN (gr_alloc (Below.refl _ _) _) 1) hb⟩
theorem get64_any (s : ByteArray) (w : World) (hs : s.size ≤ 10000) :
    Calls Try.prog 17 #[.string s] w fun e w' => ∃ v, e = .returned v ∧ w'.ownsRow w.heap.size 32 1 v (s.size / 8) ((List.range (s.size / 8)).map fun k => .int .u64 (getN (at8 s.data.toList k))) ∧ Below w.heap.size w w' := by
  have kb := fun (w : World) (s : ByteArray) => run_bytes_of_string (P := Try.prog) w 9 42 5 s Try.underlying9 Try.underlying42 Try.underlying5
  have kg := grownCap_ge w s.size 0 5
  go_enter Try.func17, Try.ntmps17
  go_wp2_with fail
  generalize grownCap w s.size 0 5 = cap at kg ⊢
  have hlen : s.data.toList.length = s.size := Array.length_toList
  refine (recast_get64 1 (fun k => [.int .u64 (getN (at8 s.data.toList k))]) w.heap.size 0 s.size cap _ (fun i => bc (s.data.toList.getD i 0)) _ (fun _ => rfl) (fun _ => by simp) kg (by omega) (by omega)
    (by exact fun i hi => by rw [Nat.zero_add]; exact bytes_cells w s cap _ _ i hi) ?_).mono ?_
  · intro W v q xs k c hk hbase hown hcells hq
    refine (get641_any v q xs _ w.heap.size (0 + 8 * k) c (fun i => ((s.data.toList.getD (8 * k + i) 0).toNat : Int)) W hown hcells (fun i => byte_bd _) hq hbase).mono ?_
    rintro e w' ⟨v', rfl, ho, hb⟩
    rw [accG_get (fun i => s.data.toList.getD (8 * k + i) 0), ← at8_eq _ k (by omega)] at ho
    exact ⟨v', rfl, ho, hb⟩
  · rintro e w1 ⟨v', rfl, ho, hb⟩
    clear kb
    go_wp2_with fail
    go_ret
    rw [flat_one, Nat.mul_one] at ho
    exact ⟨v', rfl, owns_base ho (by simp), gr_step (below_drewN (gr_alloc (Below.refl _ _) _) 1) hb⟩
theorem low_any (s : ByteArray) (w : World) (hs : s.size ≤ 10000) :
    Calls Try.prog 18 #[.string s] w fun e w' => ∃ v, e = .returned v ∧ w'.ownsRow w.heap.size 32 1 v (s.size / 8) ((List.range (s.size / 8)).map fun k => .int .u64 (getN (at8 s.data.toList k).reverse)) ∧ Below w.heap.size w w' := by
  have kb := fun (w : World) (s : ByteArray) => run_bytes_of_string (P := Try.prog) w 9 42 5 s Try.underlying9 Try.underlying42 Try.underlying5
  have kg := grownCap_ge w s.size 0 5
  go_enter Try.func18, Try.ntmps18
  go_wp2_with fail
  generalize grownCap w s.size 0 5 = cap at kg ⊢
  have hlen : s.data.toList.length = s.size := Array.length_toList
  refine (recast_low 1 (fun k => [.int .u64 (getN (at8 s.data.toList k).reverse)]) w.heap.size 0 s.size cap _ (fun i => bc (s.data.toList.getD i 0)) _ (fun _ => rfl) (fun _ => by simp) kg (by omega) (by omega)
    (by exact fun i hi => by rw [Nat.zero_add]; exact bytes_cells w s cap _ _ i hi) ?_).mono ?_
  · intro W v q xs k c hk hbase hown hcells hq
    refine (low1_any v q xs _ w.heap.size (0 + 8 * k) c (fun i => ((s.data.toList.getD (8 * k + i) 0).toNat : Int)) W hown hcells (fun i => byte_bd _) hq hbase).mono ?_
    rintro e w' ⟨v', rfl, ho, hb⟩
    rw [accL_get (fun i => s.data.toList.getD (8 * k + i) 0), ← at8_eq _ k (by omega)] at ho
    exact ⟨v', rfl, ho, hb⟩
  · rintro e w1 ⟨v', rfl, ho, hb⟩
    clear kb
    go_wp2_with fail
    go_ret
    rw [flat_one, Nat.mul_one] at ho
    exact ⟨v', rfl, owns_base ho (by simp), gr_step (below_drewN (gr_alloc (Below.refl _ _) _) 1) hb⟩
end Go.Proofs.Ytoccoagkakeenaa
