/- SHA-256 as plain numbers: a block's step; the digest of the example (layer 17). No program in it. The reference's step (layer 17): its contract. Eight words in a block that was just made (layer 17). -/
import Derived.Test.YtcokmlbpomopkaaShaB
namespace Go.Proofs.Ytcokmlbpomopkaa
set_option maxRecDepth 20000
open Go.RowKit
/-- One round. -/
def rnd (v : List Nat) (kt wt : Nat) : List Nat :=
  let x := (v.getD 7 0 + big1 (v.getD 4 0) + chooseN32 (v.getD 4 0) (v.getD 5 0) (v.getD 6 0) + kt + wt) % M32
  let y := (big0 (v.getD 0 0) + mostN32 (v.getD 0 0) (v.getD 1 0) (v.getD 2 0)) % M32
  [(x + y) % M32, v.getD 0 0, v.getD 1 0, v.getD 2 0, (v.getD 3 0 + x) % M32, v.getD 4 0, v.getD 5 0, v.getD 6 0]
/-- The first t rounds. -/
def rnds (h ks ws : List Nat) : Nat → List Nat
  | 0 => h
  | t + 1 => rnd (rnds h ks ws t) (ks.getD t 0) (ws.getD t 0)
def stepN (h ks m : List Nat) : List Nat := (List.range 8).map fun i => (h.getD i 0 + (rnds h ks (wsN m 48) 64).getD i 0) % M32
def begin8 : List Nat := [1779033703, 3144134277, 1013904242, 2773480762, 1359893119, 2600822924, 528734635, 1541459225]
def keys64 : List Nat := [1116352408, 1899447441, 3049323471, 3921009573, 961987163, 1508970993, 2453635748, 2870763221, 3624381080, 310598401, 607225278, 1426881987, 1925078388, 2162078206, 2614888103, 3248222580, 3835390401, 4022224774, 264347078, 604807628, 770255983, 1249150122, 1555081692, 1996064986, 2554220882, 2821834349, 2952996808, 3210313671, 3336571891, 3584528711, 113926993, 338241895, 666307205, 773529912, 1294757372, 1396182291, 1695183700, 1986661051, 2177026350, 2456956037, 2730485921, 2820302411, 3259730800, 3345764771, 3516065817, 3600352804, 4094571909, 275423344, 430227734, 506948616, 659060556, 883997877, 958139571, 1322822218, 1537002063, 1747873779, 1955562222, 2024104815, 2227730452, 2361852424, 2428436474, 2756734187, 3204031479, 3329325298]
theorem rnds_len (h ks ws : List Nat) (hh : h.length = 8) : ∀ t, (rnds h ks ws t).length = 8
  | 0 => hh
  | _ + 1 => rfl
theorem abc_step : stepN begin8 keys64 [0x61626380, 0, 0, 0, 0, 0, 0, 0, 0, 0, 0, 0, 0, 0, 0, 24] = [0xba7816bf, 0x8f01cfea, 0x414140de, 0x5dae2223, 0xb00361a3, 0x96177a9c, 0xb410ff61, 0xf20015ad] := by decide +kernel
end Go.Proofs.Ytcokmlbpomopkaa
namespace Go.Proofs.Ytcokmlbpomopkaa
open Go.RowKit
/-- A slice of words: where its cells lie. -/
def IsW (w : World) (g : Nat) (l : List Nat) : Prop := g < w.heap.size ∧ ∀ i, i < l.length → w.cell? ⟨g, i, none⟩ = some (.int .u64 (l.getD i 0 : Int))
theorem IsW.below {w w' : World} {g : Nat} {l : List Nat} (h : IsW w g l) (hb : Below w.heap.size w w') : IsW w' g l := ⟨Nat.lt_of_lt_of_le h.1 hb.size, fun i hi => (hb.cell (p := ⟨g, i, none⟩) h.1).trans (h.2 i hi)⟩
theorem choose_same (X Y Z : Nat) (hx : X < M32) (hy : Y < M32) (hz : Z < M32) : chooseN64 X Y Z = chooseN32 X Y Z := by
  have h := choose_short X Y Z
  unfold M32 at hx hy hz
  rw [Nat.mod_eq_of_lt hx, Nat.mod_eq_of_lt hy, Nat.mod_eq_of_lt hz] at h
  have hl : chooseN64 X Y Z < 4294967296 := by
    unfold chooseN64
    exact Nat.or_lt_two_pow (n := 32) (Nat.and_lt_two_pow _ hy) (Nat.and_lt_two_pow _ hz)
  rw [h, Nat.mod_eq_of_lt hl]
theorem most_same (X Y Z : Nat) (hx : X < M32) (hy : Y < M32) (hz : Z < M32) : mostN64 X Y Z = mostN32 X Y Z := rfl
theorem three_ch (X Y Z : Nat) (w : World) (hx : X < M32) (hy : Y < M32) (hz : Z < M32) :
    Calls Try.prog 53 #[.int .u64 (X : Int), .int .u64 (Y : Int), .int .u64 (Z : Int), .int .i64 0] w fun e w' => e = .returned (.int .u64 (chooseN32 X Y Z : Int)) ∧ Below w.heap.size w w' := by
  have h1 := hx
  have h2 := hy
  have h3 := hz
  unfold M32 at h1 h2 h3
  refine (three0 (X : Int) (Y : Int) (Z : Int) w (by omega) (by omega) (by omega) (by omega) (by omega) (by omega)).mono ?_
  rintro e w' ⟨rfl, rfl⟩
  refine ⟨?_, Below.refl _ _⟩
  rw [choose64_nat X Y Z (by omega) (by omega) (by omega), choose_same X Y Z hx hy hz]
theorem three_maj (X Y Z : Nat) (w : World) (hx : X < M32) (hy : Y < M32) (hz : Z < M32) :
    Calls Try.prog 53 #[.int .u64 (X : Int), .int .u64 (Y : Int), .int .u64 (Z : Int), .int .i64 1] w fun e w' => e = .returned (.int .u64 (mostN32 X Y Z : Int)) ∧ Below w.heap.size w w' := by
  have h1 := hx
  have h2 := hy
  have h3 := hz
  unfold M32 at h1 h2 h3
  refine (three1 (X : Int) (Y : Int) (Z : Int) w (by omega) (by omega) (by omega) (by omega) (by omega) (by omega)).mono ?_
  rintro e w' ⟨rfl, rfl⟩
  refine ⟨?_, Below.refl _ _⟩
  rw [most64_nat X Y Z (by omega) (by omega) (by omega), most_same X Y Z hx hy hz]
theorem ch_lt (X Y Z : Nat) (hy : Y < M32) (hz : Z < M32) : chooseN32 X Y Z < M32 := chooseN32_lt X Y Z hy hz
theorem maj_lt (X Y Z : Nat) (hy : Y < M32) (hz : Z < M32) : mostN32 X Y Z < M32 := mostN32_lt X Y Z hy hz
theorem big0_lt (a : Nat) (h : a < M32) : big0 a < M32 := xor_lt (xor_lt (rot_lt a 2 h) (rot_lt a 13 h)) (rot_lt a 22 h)
theorem big1_lt (a : Nat) (h : a < M32) : big1 a < M32 := xor_lt (xor_lt (rot_lt a 6 h) (rot_lt a 11 h)) (rot_lt a 25 h)
theorem getD_lt {l : List Nat} (h : ∀ x ∈ l, x < M32) (i : Nat) : l.getD i 0 < M32 := by
  by_cases hi : i < l.length
  · rw [List.getD_eq_getElem?_getD, List.getElem?_eq_getElem hi]
    exact h _ (List.getElem_mem hi)
  · rw [List.getD_eq_getElem?_getD, List.getElem?_eq_none (by omega)]
    decide
theorem rnd_lt (v : List Nat) (kt wt : Nat) (hv : ∀ x ∈ v, x < M32) : ∀ x ∈ rnd v kt wt, x < M32 := fun x hx => by
  unfold rnd at hx
  simp only [List.mem_cons, List.not_mem_nil, or_false] at hx
  rcases hx with rfl | rfl | rfl | rfl | rfl | rfl | rfl | rfl
  · exact Nat.mod_lt _ (by decide)
  · exact getD_lt hv 0
  · exact getD_lt hv 1
  · exact getD_lt hv 2
  · exact Nat.mod_lt _ (by decide)
  · exact getD_lt hv 4
  · exact getD_lt hv 5
  · exact getD_lt hv 6
theorem rnds_lt (h ks ws : List Nat) (hh : ∀ x ∈ h, x < M32) : ∀ t, ∀ x ∈ rnds h ks ws t, x < M32
  | 0 => hh
  | t + 1 => rnd_lt _ _ _ (rnds_lt h ks ws hh t)
end Go.Proofs.Ytcokmlbpomopkaa
namespace Go.Proofs.Ytcokmlbpomopkaa
open Go.RowKit
theorem new8 (U : World) (a0 a1 a2 a3 a4 a5 a6 a7 : Nat) : IsW (U.alloc (.cells #[.int .u64 (a0 : Int), .int .u64 (a1 : Int), .int .u64 (a2 : Int), .int .u64 (a3 : Int), .int .u64 (a4 : Int), .int .u64 (a5 : Int), .int .u64 (a6 : Int), .int .u64 (a7 : Int)] 51)) U.heap.size [a0, a1, a2, a3, a4, a5, a6, a7] := by
  have hn : (U.alloc (.cells #[.int .u64 (a0 : Int), .int .u64 (a1 : Int), .int .u64 (a2 : Int), .int .u64 (a3 : Int), .int .u64 (a4 : Int), .int .u64 (a5 : Int), .int .u64 (a6 : Int), .int .u64 (a7 : Int)] 51)).heap[U.heap.size]? = some (.cells #[.int .u64 (a0 : Int), .int .u64 (a1 : Int), .int .u64 (a2 : Int), .int .u64 (a3 : Int), .int .u64 (a4 : Int), .int .u64 (a5 : Int), .int .u64 (a6 : Int), .int .u64 (a7 : Int)] 51 (0, 0)) := by
    show (U.heap.push _)[U.heap.size]? = _
    simp
  have hc : ∀ i, (U.alloc (.cells #[.int .u64 (a0 : Int), .int .u64 (a1 : Int), .int .u64 (a2 : Int), .int .u64 (a3 : Int), .int .u64 (a4 : Int), .int .u64 (a5 : Int), .int .u64 (a6 : Int), .int .u64 (a7 : Int)] 51)).cell? ⟨U.heap.size, i, none⟩ = (#[.int .u64 (a0 : Int), .int .u64 (a1 : Int), .int .u64 (a2 : Int), .int .u64 (a3 : Int), .int .u64 (a4 : Int), .int .u64 (a5 : Int), .int .u64 (a6 : Int), .int .u64 (a7 : Int)] : Array Value)[i]? := fun i => by
    simp only [World.cell?, hn]
    rfl
  refine ⟨by rw [World.size_alloc]; omega, fun i hi => ?_⟩
  rw [hc i]
  have hi8 : i < 8 := hi
  have h8 : i = 0 ∨ i = 1 ∨ i = 2 ∨ i = 3 ∨ i = 4 ∨ i = 5 ∨ i = 6 ∨ i = 7 := by omega
  rcases h8 with rfl | rfl | rfl | rfl | rfl | rfl | rfl | rfl <;> rfl
end Go.Proofs.Ytcokmlbpomopkaa
