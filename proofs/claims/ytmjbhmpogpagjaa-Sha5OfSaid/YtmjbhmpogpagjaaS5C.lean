/- SHA-512 as plain numbers: a block's step; the digest of the example (layer 18). No program in it. The reference's step (layer 18): its contract. Eight words in a block that was just made (layer 18). -/
import Derived.Test.YtmjbhmpogpagjaaS5B
namespace Go.Proofs.Ytmjbhmpogpagjaa
set_option maxRecDepth 20000
set_option linter.unusedSimpArgs false
set_option linter.unusedVariables false
open Go.RowKit
/-- One round. -/
def rnd (v : List Nat) (kt wt : Nat) : List Nat :=
  let x := (v.getD 7 0 + big1 (v.getD 4 0) + chooseN64 (v.getD 4 0) (v.getD 5 0) (v.getD 6 0) + kt + wt) % M64
  let y := (big0 (v.getD 0 0) + mostN64 (v.getD 0 0) (v.getD 1 0) (v.getD 2 0)) % M64
  [(x + y) % M64, v.getD 0 0, v.getD 1 0, v.getD 2 0, (v.getD 3 0 + x) % M64, v.getD 4 0, v.getD 5 0, v.getD 6 0]
/-- The first t rounds. -/
def rnds (h ks ws : List Nat) : Nat → List Nat
  | 0 => h
  | t + 1 => rnd (rnds h ks ws t) (ks.getD t 0) (ws.getD t 0)
def stepN (h ks m : List Nat) : List Nat := (List.range 8).map fun i => (h.getD i 0 + (rnds h ks (wsN m 64) 80).getD i 0) % M64
def begin8 : List Nat := [7640891576956012808, 13503953896175478587, 4354685564936845355, 11912009170470909681, 5840696475078001361, 11170449401992604703, 2270897969802886507, 6620516959819538809]
def keys80 : List Nat := [4794697086780616226, 8158064640168781261, 13096744586834688815, 16840607885511220156, 4131703408338449720, 6480981068601479193, 10538285296894168987, 12329834152419229976, 15566598209576043074, 1334009975649890238, 2608012711638119052, 6128411473006802146, 8268148722764581231, 9286055187155687089, 11230858885718282805, 13951009754708518548, 16472876342353939154, 17275323862435702243, 1135362057144423861, 2597628984639134821, 3308224258029322869, 5365058923640841347, 6679025012923562964, 8573033837759648693, 10970295158949994411, 12119686244451234320, 12683024718118986047, 13788192230050041572, 14330467153632333762, 15395433587784984357, 489312712824947311, 1452737877330783856, 2861767655752347644, 3322285676063803686, 5560940570517711597, 5996557281743188959, 7280758554555802590, 8532644243296465576, 9350256976987008742, 10552545826968843579, 11727347734174303076, 12113106623233404929, 14000437183269869457, 14369950271660146224, 15101387698204529176, 15463397548674623760, 17586052441742319658, 1182934255886127544, 1847814050463011016, 2177327727835720531, 2830643537854262169, 3796741975233480872, 4115178125766777443, 5681478168544905931, 6601373596472566643, 7507060721942968483, 8399075790359081724, 8693463985226723168, 9568029438360202098, 10144078919501101548, 10430055236837252648, 11840083180663258601, 13761210420658862357, 14299343276471374635, 14566680578165727644, 15097957966210449927, 16922976911328602910, 17689382322260857208, 500013540394364858, 748580250866718886, 1242879168328830382, 1977374033974150939, 2944078676154940804, 3659926193048069267, 4368137639120453308, 4836135668995329356, 5532061633213252278, 6448918945643986474, 6902733635092675308, 7801388544844847127]
theorem rnds_len (h ks ws : List Nat) (hh : h.length = 8) : ∀ t, (rnds h ks ws t).length = 8
  | 0 => hh
  | _ + 1 => rfl
theorem abc_step : stepN begin8 keys80 [0x6162638000000000, 0, 0, 0, 0, 0, 0, 0, 0, 0, 0, 0, 0, 0, 0, 24] = [0xddaf35a193617aba, 0xcc417349ae204131, 0x12e6fa4e89a97ea2, 0xa9eeee64b55d39a, 0x2192992a274fc1a8, 0x36ba3c23a3feebbd, 0x454d4423643ce80e, 0x2a9ac94fa54ca49f] := by decide +kernel
end Go.Proofs.Ytmjbhmpogpagjaa
namespace Go.Proofs.Ytmjbhmpogpagjaa
open Go.RowKit
/-- A slice of words: where its cells lie. -/
def IsW (w : World) (g : Nat) (l : List Nat) : Prop := g < w.heap.size ∧ ∀ i, i < l.length → w.cell? ⟨g, i, none⟩ = some (.int .u64 (l.getD i 0 : Int))
theorem IsW.below {w w' : World} {g : Nat} {l : List Nat} (h : IsW w g l) (hb : Below w.heap.size w w') : IsW w' g l := ⟨Nat.lt_of_lt_of_le h.1 hb.size, fun i hi => (hb.cell (p := ⟨g, i, none⟩) h.1).trans (h.2 i hi)⟩
theorem choose_same (X Y Z : Nat) (_ : X < M64) (_ : Y < M64) (_ : Z < M64) : chooseN64 X Y Z = chooseN64 X Y Z := rfl
theorem most_same (X Y Z : Nat) (_ : X < M64) (_ : Y < M64) (_ : Z < M64) : mostN64 X Y Z = mostN64 X Y Z := rfl
theorem three_ch (X Y Z : Nat) (w : World) (hx : X < M64) (hy : Y < M64) (hz : Z < M64) :
    Calls Try.prog 52 #[.int .u64 (X : Int), .int .u64 (Y : Int), .int .u64 (Z : Int), .int .i64 0] w fun e w' => e = .returned (.int .u64 (chooseN64 X Y Z : Int)) ∧ Below w.heap.size w w' := by
  have h1 := hx
  have h2 := hy
  have h3 := hz
  unfold M64 at h1 h2 h3
  refine (three0 (X : Int) (Y : Int) (Z : Int) w (by omega) (by omega) (by omega) (by omega) (by omega) (by omega)).mono ?_
  rintro e w' ⟨rfl, rfl⟩
  refine ⟨?_, Below.refl _ _⟩
  rw [choose64_nat X Y Z (by omega) (by omega) (by omega)]
theorem three_maj (X Y Z : Nat) (w : World) (hx : X < M64) (hy : Y < M64) (hz : Z < M64) :
    Calls Try.prog 52 #[.int .u64 (X : Int), .int .u64 (Y : Int), .int .u64 (Z : Int), .int .i64 1] w fun e w' => e = .returned (.int .u64 (mostN64 X Y Z : Int)) ∧ Below w.heap.size w w' := by
  have h1 := hx
  have h2 := hy
  have h3 := hz
  unfold M64 at h1 h2 h3
  refine (three1 (X : Int) (Y : Int) (Z : Int) w (by omega) (by omega) (by omega) (by omega) (by omega) (by omega)).mono ?_
  rintro e w' ⟨rfl, rfl⟩
  refine ⟨?_, Below.refl _ _⟩
  rw [most64_nat X Y Z (by omega) (by omega) (by omega)]
theorem ch_lt (X Y Z : Nat) (hy : Y < M64) (hz : Z < M64) : chooseN64 X Y Z < M64 := chooseN64_lt X Y Z hy hz
theorem maj_lt (X Y Z : Nat) (hy : Y < M64) (hz : Z < M64) : mostN64 X Y Z < M64 := mostN64_lt X Y Z hy hz
theorem big0_lt (a : Nat) (h : a < M64) : big0 a < M64 := xor_lt (xor_lt (rot_lt a 28 h) (rot_lt a 34 h)) (rot_lt a 39 h)
theorem big1_lt (a : Nat) (h : a < M64) : big1 a < M64 := xor_lt (xor_lt (rot_lt a 14 h) (rot_lt a 18 h)) (rot_lt a 41 h)
theorem getD_lt {l : List Nat} (h : ∀ x ∈ l, x < M64) (i : Nat) : l.getD i 0 < M64 := by
  by_cases hi : i < l.length
  · rw [List.getD_eq_getElem?_getD, List.getElem?_eq_getElem hi]
    exact h _ (List.getElem_mem hi)
  · rw [List.getD_eq_getElem?_getD, List.getElem?_eq_none (by omega)]
    decide
theorem rnd_lt (v : List Nat) (kt wt : Nat) (hv : ∀ x ∈ v, x < M64) : ∀ x ∈ rnd v kt wt, x < M64 := fun x hx => by
  unfold rnd at hx
  simp only [List.mem_cons, List.not_mem_nil, or_false] at hx
  rcases hx with rfl | rfl | rfl | rfl | rfl | rfl | rfl | rfl
  · exact Nat.mod_lt _ (by decide)
  · exact getD_lt hv 0
  · exact getD_lt hv 1
  · exact getD_lt hv 2
  · exact Nat.mod_lt _ (by decide)
  · exact getD_lt hv 4
  · exact getD_lt hv 5
  · exact getD_lt hv 6
theorem rnds_lt (h ks ws : List Nat) (hh : ∀ x ∈ h, x < M64) : ∀ t, ∀ x ∈ rnds h ks ws t, x < M64
  | 0 => hh
  | t + 1 => rnd_lt _ _ _ (rnds_lt h ks ws hh t)
end Go.Proofs.Ytmjbhmpogpagjaa
namespace Go.Proofs.Ytmjbhmpogpagjaa
open Go.RowKit
theorem new8 (U : World) (a0 a1 a2 a3 a4 a5 a6 a7 : Nat) : IsW (U.alloc (.cells #[.int .u64 (a0 : Int), .int .u64 (a1 : Int), .int .u64 (a2 : Int), .int .u64 (a3 : Int), .int .u64 (a4 : Int), .int .u64 (a5 : Int), .int .u64 (a6 : Int), .int .u64 (a7 : Int)] 36)) U.heap.size [a0, a1, a2, a3, a4, a5, a6, a7] := by
  have hn : (U.alloc (.cells #[.int .u64 (a0 : Int), .int .u64 (a1 : Int), .int .u64 (a2 : Int), .int .u64 (a3 : Int), .int .u64 (a4 : Int), .int .u64 (a5 : Int), .int .u64 (a6 : Int), .int .u64 (a7 : Int)] 36)).heap[U.heap.size]? = some (.cells #[.int .u64 (a0 : Int), .int .u64 (a1 : Int), .int .u64 (a2 : Int), .int .u64 (a3 : Int), .int .u64 (a4 : Int), .int .u64 (a5 : Int), .int .u64 (a6 : Int), .int .u64 (a7 : Int)] 36 (0, 0)) := by
    show (U.heap.push _)[U.heap.size]? = _
    simp
  have hc : ∀ i, (U.alloc (.cells #[.int .u64 (a0 : Int), .int .u64 (a1 : Int), .int .u64 (a2 : Int), .int .u64 (a3 : Int), .int .u64 (a4 : Int), .int .u64 (a5 : Int), .int .u64 (a6 : Int), .int .u64 (a7 : Int)] 36)).cell? ⟨U.heap.size, i, none⟩ = (#[.int .u64 (a0 : Int), .int .u64 (a1 : Int), .int .u64 (a2 : Int), .int .u64 (a3 : Int), .int .u64 (a4 : Int), .int .u64 (a5 : Int), .int .u64 (a6 : Int), .int .u64 (a7 : Int)] : Array Value)[i]? := fun i => by
    simp only [World.cell?, hn]
    rfl
  refine ⟨by rw [World.size_alloc]; omega, fun i hi => ?_⟩
  rw [hc i]
  have hi8 : i < 8 := hi
  have h8 : i = 0 ∨ i = 1 ∨ i = 2 ∨ i = 3 ∨ i = 4 ∨ i = 5 ∨ i = 6 ∨ i = 7 := by omega
  rcases h8 with rfl | rfl | rfl | rfl | rfl | rfl | rfl | rfl <;> rfl
end Go.Proofs.Ytmjbhmpogpagjaa
