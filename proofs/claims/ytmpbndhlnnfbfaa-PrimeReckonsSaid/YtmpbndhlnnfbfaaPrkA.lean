/- What layer 19's law of sums and products asks of rows of numbers. -/
import Derived.Test.YtmpbndhlnnfbfaaPriR
import Derived.Test.YtmpbndhlnnfbfaaScaR
import Derived.Test.YtmpbndhlnnfbfaaPriK
namespace Go.Proofs.Ytmpbndhlnnfbfaa
open Go.RowKit
def numsL (ns : List Nat) : List Value := ns.flatMap numL
theorem numsL_snoc (ns : List Nat) (n : Nat) : numsL (ns ++ [n]) = numsL ns ++ numL n := by simp [numsL]
theorem numsL_len (ns : List Nat) : (numsL ns).length = ns.length * 4 := by
  induction ns with
  | nil => rfl
  | cons n t ih =>
    show (numL n ++ numsL t).length = _
    rw [List.length_append, ih, List.length_cons]
    simp [numL]
    omega
theorem numsL_get : ∀ (ns : List Nat) (i k : Nat), i < ns.length → k < 4 → (numsL ns)[i * 4 + k]? = some (.int .u64 (wd (ns.getD i 0) k : Int))
  | [], i, k, h, _ => absurd h (by simp)
  | n :: t, 0, k, _, hk => by
    show (numL n ++ numsL t)[0 * 4 + k]? = _
    rw [List.getElem?_append_left (by simp [numL]; omega), Nat.zero_mul, Nat.zero_add]
    exact numL_get n k hk
  | n :: t, i + 1, k, h, hk => by
    show (numL n ++ numsL t)[(i + 1) * 4 + k]? = _
    rw [List.getElem?_append_right (by simp [numL]; omega)]
    have e : (i + 1) * 4 + k - (numL n).length = i * 4 + k := by simp [numL]; omega
    rw [e, numsL_get t i k (by simpa using h) hk]
    rfl
theorem own_nums {w : World} {base k : Nat} {v : Value} {ns : List Nat} (h : w.ownsRow base 27 4 v k (numsL ns)) (hk : ns.length = k) (hn : ∀ n ∈ ns, n < PN) : ∃ a cap, v = .slice a k cap ∧ k ≤ cap ∧ IsNums w a k ns := by
  obtain ⟨_, ⟨rfl, h0⟩ | ⟨g, cap, cur, rfl, h1, h2, h3, h4, h5, h6⟩⟩ := h
  · subst h0
    exact ⟨none, 0, rfl, Nat.le_refl _, hk, hn, fun h => absurd h (by omega)⟩
  · refine ⟨_, cap, rfl, by omega, hk, hn, fun _ => ⟨g, rfl, lt_blk h2, fun i j hi hj => ?_⟩⟩
    have hx : (cur.toList.take (k * 4))[i * 4 + j]? = (numsL ns)[i * 4 + j]? := congrArg (fun l : List Value => l[i * 4 + j]?) h6
    rw [List.getElem?_take, if_pos (by omega), numsL_get ns i j (by omega) hj] at hx
    have hc : w.cell? ⟨g, i * 4 + j, none⟩ = cur.toList[i * 4 + j]? := by simp [World.cell?, h2]
    rw [hc, hx]
theorem Try.info_el : (Try.prog.info? 27).map (fun i => (i.zero, i.size, i.bytes)) = some (some (.agg #[.int .u64 0, .int .u64 0, .int .u64 0, .int .u64 0]), 4, 32) := by kernel_rfl
theorem news4 (w : World) (n : Nat) (t : TypeId) : ∀ j u, (numL n)[j]? = some u → (w.alloc (.cells #[.int .u64 (wd n 0 : Int), .int .u64 (wd n 1 : Int), .int .u64 (wd n 2 : Int), .int .u64 (wd n 3 : Int)] t)).cell? ((⟨w.heap.size, 0, none⟩ : Addr).add j) = some u := fun j u h => news_new w #[.int .u64 (wd n 0 : Int), .int .u64 (wd n 1 : Int), .int .u64 (wd n 2 : Int), .int .u64 (wd n 3 : Int)] t j u h
theorem own_far4 {w : World} {base c : Nat} {e : TypeId} {sz n : Nat} {v v0 v1 v2 v3 : Value} {xs : List Value} (h : w.ownsRow base e sz v n xs) (hc : c < base) : ((((w.setCell ⟨c, 0, none⟩ v0).setCell ⟨c, 1, none⟩ v1).setCell ⟨c, 2, none⟩ v2).setCell ⟨c, 3, none⟩ v3).ownsRow base e sz v n xs := by
  obtain ⟨hl, h0 | ⟨g, cap, cur, rfl, hg, hh, r⟩⟩ := h
  · exact ⟨hl, .inl h0⟩
  · exact ⟨hl, .inr ⟨g, cap, cur, rfl, hg, (set4_far (show g ≠ c by omega)).trans hh, r⟩⟩
theorem owns_below {w w' : World} {base : Nat} {e : TypeId} {size : Nat} {v : Value} {n : Nat} {xs : List Value} (h : w.ownsRow base e size v n xs) (hb : Below w.heap.size w w') : w'.ownsRow base e size v n xs := by
  obtain ⟨h1, h2⟩ := h
  refine ⟨h1, ?_⟩
  rcases h2 with h2 | ⟨g, cap, cur, hv, hg, hh, r⟩
  · exact Or.inl h2
  · refine Or.inr ⟨g, cap, cur, hv, hg, ?_, r⟩
    have hlt : g < w.heap.size := by
      apply Nat.lt_of_not_le
      intro hle
      rw [Array.getElem?_eq_none hle] at hh
      simp at hh
    rw [hb.block g hlt]; exact hh
/-- The product of the first k numbers, begun with 1. -/
def prdF (xs : List Nat) : Nat → Nat
  | 0 => 1
  | k + 1 => prdF xs k * xs.getD k 0 % PN
theorem prdF_lt (xs : List Nat) : ∀ k, prdF xs k < PN
  | 0 => by have := PN_ge; show 1 < PN; omega
  | _ + 1 => Nat.mod_lt _ PN_pos
theorem prodP_is (xs : List Nat) (h : ∀ n ∈ xs, n < PN) : ∀ k, prodP xs k = prdF xs (k + 1)
  | 0 => by
    show xs.getD 0 0 = 1 * xs.getD 0 0 % PN
    rw [Nat.one_mul, Nat.mod_eq_of_lt (getD_ltP h 0)]
  | k + 1 => by
    show prodP xs k * xs.getD (k + 1) 0 % PN = prdF xs (k + 1) * xs.getD (k + 1) 0 % PN
    rw [prodP_is xs h k]
theorem mulP_is (xs : List Nat) (h : ∀ n ∈ xs, n < PN) : ∀ k, mulP xs k = prdF xs k
  | 0 => rfl
  | k + 1 => prodP_is xs h k
theorem map_getD (ns : List Nat) (k : Nat) (hk : k < ns.length) : (ns.map (· % PN)).getD k 0 = ns.getD k 0 % PN := by
  rw [List.getD_eq_getElem?_getD, List.getD_eq_getElem?_getD, List.getElem?_map, List.getElem?_eq_getElem hk]
  rfl
theorem map_lt (ns : List Nat) : ∀ n ∈ ns.map (· % PN), n < PN := fun n h => by
  obtain ⟨m, _, rfl⟩ := List.mem_map.1 h
  exact Nat.mod_lt _ PN_pos
end Go.Proofs.Ytmpbndhlnnfbfaa
