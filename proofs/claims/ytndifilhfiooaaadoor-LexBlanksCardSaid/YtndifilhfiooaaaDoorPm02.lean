/- utf.Next (layer 3): what it answers. utf.All (layer 3): the iterator: which code points it tells. utf.Valid (layer 3): what it answers. The reference's Is, Form, loose (layer 3): what they answer. The reference's Next (layer 3): what it answers. The reference's All and Valid (layer 3). utf.Put (layer 3): what it answers. The document's examples (layer 3). The reference's Less and Compare (layer 3). Code points and bytes stand in one order (layer 3). No program in it. What was put is read as it was (layer 3). No program in it. strings.Builder (the library's): copyCheck and WriteString at this program, whose copyCheck has an operation that is refused (where a builder was copied), so that the shelf's contract isn't laid. Short names for what an act's slots are rewritten by. No program in it. A region that draws its order and whose operations read, make blocks of their own and call: each operation shown once, from what is known of those it waits for. No program in it. -/
import Derived.RangeFuncNested
import Derived.RangeFuncBound
import Derived.RangeFuncCalls
import Derived.RangeFuncLeaves
import Derived.RangeFuncFrom
import Derived.Shelf.Abstract
import Derived.Shelf.RegionOpen
import Derived.OwnWalkIn
import Derived.TacticsInMore
import Derived.LoopNIn
import Derived.LoopIn
import Derived.Lib.QuietBelow
import Derived.BigQuiet
import Derived.Shelf.Strings.BuilderK
import Derived.Deep.RegionHeld3
import Derived.Test.YtndifilhfiooaaaDoorPm01
import Derived.Test.YtndifilhfiooaaaDoorShelf
namespace Go.Proofs.YtndifilhfiooaaaDoor
set_option maxRecDepth 20000
set_option linter.unusedSimpArgs false
set_option linter.unusedVariables false
open Go.RowKit Go.Lib
/-- The code point at a place. -/
def nextV (l : List UInt8) (a : Int) : Option (Nat × Nat) := if 0 ≤ a ∧ a < (l.length : Int) then nx (l.drop a.toNat) else none
def retN : Option (Nat × Nat) → Ending
  | none => .returned (.tuple #[.int .i32 0, .int .i64 0, .bool false])
  | some (n, k) => .returned (.tuple #[.int .i32 (n : Int), .int .i64 (k : Int), .bool true])
theorem extract_list (s : ByteArray) (a : Nat) : s.extract a s.size = ⟨(s.data.toList.drop a).toArray⟩ := by
  obtain ⟨⟨l⟩⟩ := s
  rw [ByteArray.extract_mk]
  congr 1
  apply Array.ext'
  exact List.take_of_length_le (by rw [List.length_drop]; exact Nat.le_refl _)
theorem next_any (s : ByteArray) (a : Int) (w : World) (hT : Lib.Utf8Tabs (Tryd.lays197_ren.g 3) (Tryd.lays197_ren.g 4) w) :
    Calls Tryd.prog 52 #[.string s, .int .i64 a] w fun e w' => e = retN (nextV s.data.toList a) ∧ Below w.heap.size w w' := by
  have hsl : s.data.toList.length = s.size := (Lib.size_eq s).symm
  by_cases h : 0 ≤ a ∧ a < (s.size : Int)
  · obtain ⟨h0, h1⟩ := h
    have hn : nextV s.data.toList a = nx (s.data.toList.drop a.toNat) := by unfold nextV; rw [if_pos ⟨h0, by rw [hsl]; exact h1⟩]
    have HN := Lib.hid hn
    clear hn
    obtain ⟨l, hl⟩ : ∃ l, s.data.toList.drop a.toNat = l := ⟨_, rfl⟩
    have hll : l.length = s.size - a.toNat := by rw [← hl, List.length_drop, hsl]
    have hne : l ≠ [] := by intro e; rw [e, List.length_nil] at hll; omega
    have KD := Tryd.utf8_DecodeRuneInString (s.extract a.toNat s.size) w hT
    have e1 : Lib.decodeGo (s.extract a.toNat s.size) = decodeL l := by
      unfold Lib.decodeGo
      rw [extract_list, hl]
      rw [if_neg (by show ¬ l.length = 0; omega)]
      rfl
    rw [e1] at KD
    have HK := Lib.hid KD
    have HL := Lib.hid hl
    have hnx : nx l = if (decodeL l).1 = 65533 ∧ (decodeL l).2 < 3 then none else some (decodeL l) := by unfold nx; rw [if_neg hne]
    clear KD e1 hl hT hll
    generalize decodeL l = d at *
    obtain ⟨r, k⟩ := d
    simp only at HK hnx
    have na : ¬ a < 0 := by omega
    have nb : ¬ (s.size : Int) ≤ a := by omega
    by_cases hr : r = 65533
    · subst hr
      by_cases hk : k < 3
      · have hk' : (k : Int) < 3 := by omega
        have HR : Hid (nx l = none) := by show nx l = none; rw [hnx, if_pos ⟨rfl, hk⟩]
        clear hnx hsl
        go_enter Tryd.func52, Tryd.ntmps52
        go_wp2_with (go_at_call 58; refine HK.out.mono ?_; rintro e w' ⟨rfl, hb⟩)
        go_ret3
        exact ⟨by rw [HN.out, HL.out, HR.out]; rfl, hb⟩
      · have hk' : ¬ (k : Int) < 3 := by omega
        have HR : Hid (nx l = some (65533, k)) := by show nx l = _; rw [hnx, if_neg (fun hh => hk hh.2)]
        clear hnx hsl
        go_enter Tryd.func52, Tryd.ntmps52
        go_wp2_with (go_at_call 58; refine HK.out.mono ?_; rintro e w' ⟨rfl, hb⟩)
        go_ret3
        exact ⟨by rw [HN.out, HL.out, HR.out]; rfl, hb⟩
    · have hr' : ¬ (r : Int) = 65533 := by omega
      have HR : Hid (nx l = some (r, k)) := by show nx l = _; rw [hnx, if_neg (fun hh => hr hh.1)]
      clear hnx hsl
      go_enter Tryd.func52, Tryd.ntmps52
      go_wp2_with (go_at_call 58; refine HK.out.mono ?_; rintro e w' ⟨rfl, hb⟩)
      go_ret3
      exact ⟨by rw [HN.out, HL.out, HR.out]; rfl, hb⟩
  · have hn : nextV s.data.toList a = none := by unfold nextV; rw [hsl, if_neg h]
    have HN := Lib.hid hn
    have hor : a < 0 ∨ (s.size : Int) ≤ a := by omega
    clear hn h hsl
    rcases hor with h | h
    · go_enter Tryd.func52, Tryd.ntmps52
      go_wp2_with fail
      go_ret3
      exact ⟨by rw [HN.out]; rfl, Below.refl _ _⟩
    · go_enter Tryd.func52, Tryd.ntmps52
      go_wp2_with fail
      all_goals
        go_ret3
        exact ⟨by rw [HN.out]; rfl, Below.refl _ _⟩
end Go.Proofs.YtndifilhfiooaaaDoor
namespace Go.Proofs.YtndifilhfiooaaaDoor
set_option maxRecDepth 20000
set_option linter.unusedSimpArgs false
set_option linter.unusedVariables false
open Go.RowKit Go.Lib Go.Shelf
attribute [local go_sem] Oper.semAt_some
theorem nx_nil : nx [] = none := rfl
theorem nx_pos {l : List UInt8} {n k : Nat} (h : nx l = some (n, k)) : 1 ≤ k ∧ k ≤ l.length ∧ k ≤ 4 := by
  obtain ⟨h1, h2, h3⟩ := nx_iff.1 h
  have := form_len_pos h1
  have := h2.length_le
  omega
theorem nx_lt {l : List UInt8} {a n k : Nat} (h : nx (l.drop a) = some (n, k)) : a + k ≤ l.length ∧ 1 ≤ k := by
  have h1 := nx_pos h
  rw [List.length_drop] at h1
  omega
/-- The code points from a place on, each with its place. -/
def cpsAt (l : List UInt8) (a : Nat) : List (Nat × Nat) :=
  match h : nx (l.drop a) with
  | none => []
  | some (n, k) => (a, n) :: cpsAt l (a + k)
termination_by l.length - a
decreasing_by
  have := nx_lt h
  omega
theorem cpsAt_none {l : List UInt8} {a : Nat} (h : nx (l.drop a) = none) : cpsAt l a = [] := by
  rw [cpsAt]
  split
  · rfl
  · rename_i h2; rw [h] at h2; cases h2
theorem cpsAt_some {l : List UInt8} {a n k : Nat} (h : nx (l.drop a) = some (n, k)) : cpsAt l a = (a, n) :: cpsAt l (a + k) := by
  rw [cpsAt]
  split
  · rename_i h2; rw [h] at h2; cases h2
  · rename_i h2; rw [h] at h2; cases h2; rfl
theorem nextV_nat (l : List UInt8) (a : Nat) : nextV l (a : Int) = nx (l.drop a) := by
  unfold nextV
  by_cases h : a < l.length
  · rw [if_pos ⟨by omega, by omega⟩, Int.toNat_natCast]
  · rw [if_neg (by omega), List.drop_eq_nil_of_le (by omega), nx_nil]
theorem cps_len : ∀ (d : Nat) (l : List UInt8) (a : Nat), l.length - a = d → (cpsAt l a).length ≤ l.length - a := by
  intro d
  induction d using Nat.strongRecOn with
  | ind d ih =>
    intro l a hd
    cases h : nx (l.drop a) with
    | none => rw [cpsAt_none h]; simp
    | some x =>
      obtain ⟨n, k⟩ := x
      have h1 := nx_lt h
      have := ih (l.length - (a + k)) (by omega) l (a + k) rfl
      rw [cpsAt_some h, List.length_cons]
      omega
abbrev Tabs (w : World) : Prop := Lib.Utf8Tabs (Tryd.lays197_ren.g 3) (Tryd.lays197_ren.g 4) w
theorem below_none {w w' : World} (h : Below w.heap.size w w') : w.grownBy w' none := ⟨h.os, h.tape, h.output, h.size, fun k hk _ => h.block k hk⟩
end Go.Proofs.YtndifilhfiooaaaDoor
namespace Go.Proofs.YtndifilhfiooaaaDoor
set_option maxRecDepth 20000
set_option linter.unusedSimpArgs false
set_option linter.unusedVariables false
open Go.RowKit Go.Lib Go.Shelf
attribute [local go_sem] Oper.semAt_some
/-- Where the last code point that was told ends. -/
def endZ (l : List (Nat × Nat)) : Int := l.foldl (fun _ x => wrap64 ((x.1 : Int) + Lib.runeLen (x.2 : Int))) 0
theorem endZ_snoc (pre : List (Nat × Nat)) (x : Nat × Nat) : endZ (pre ++ [x]) = wrap64 ((x.1 : Int) + Lib.runeLen (x.2 : Int)) := by simp [endZ]
theorem tabs_low {n₀ : Nat} {w w' : World} (hn : Tryd.lays197_ren.g 3 < n₀ ∧ Tryd.lays197_ren.g 4 < n₀) (h : Tabs w) (hb : Below n₀ w w') : Tabs w' := by
  obtain ⟨h1, h2⟩ := h
  exact ⟨fun c hc => (hb.cell (p := ⟨_, c, none⟩) hn.1).trans (h1 c hc),
    fun i hi => ⟨(hb.cell (p := ⟨_, 2 * i, none⟩) hn.2).trans (h2 i hi).1, (hb.cell (p := ⟨_, 2 * i + 1, none⟩) hn.2).trans (h2 i hi).2⟩⟩
theorem tabs_size {w : World} (h : Tabs w) : Tryd.lays197_ren.g 3 < w.heap.size ∧ Tryd.lays197_ren.g 4 < w.heap.size := by
  have hlt : ∀ {b o : Nat} {v : Value}, w.cell? ⟨b, o, none⟩ = some v → b < w.heap.size := fun {b o v} h => by
    apply Nat.lt_of_not_le
    intro hle
    simp [World.cell?, Array.getElem?_eq_none hle] at h
  exact ⟨hlt (h.1 0 (by decide)), hlt (h.2 0 (by decide)).1⟩
theorem cell_new_l (W : World) (v : Value) (t : TypeId) : (W.alloc (.cells #[v] t)).cell? ⟨W.heap.size, 0, none⟩ = some v ∧ (W.alloc (.cells #[v] t)).frozen? ⟨W.heap.size, 0, none⟩ = false := by
  have h : (W.alloc (.cells #[v] t)).heap[W.heap.size]? = some (.cells #[v] t (0, 0)) := World.alloc_heap_new W _
  exact ⟨by unfold World.cell?; rw [show (W.alloc (.cells #[v] t)).heap[(⟨W.heap.size, 0, none⟩ : Addr).block]? = _ from h]; rfl,
    by unfold World.frozen?; rw [show (W.alloc (.cells #[v] t)).heap[(⟨W.heap.size, 0, none⟩ : Addr).block]? = _ from h]; rfl⟩
theorem blk_of_cell {W : World} {a : Addr} {v : Value} (h : W.cell? a = some v) : a.block < W.heap.size := by
  apply Nat.lt_of_not_le
  intro hle
  unfold World.cell? at h
  rw [Array.getElem?_eq_none hle] at h
  cases h
end Go.Proofs.YtndifilhfiooaaaDoor
namespace Go.Proofs.YtndifilhfiooaaaDoor
set_option maxRecDepth 20000
set_option linter.unusedSimpArgs false
set_option linter.unusedVariables false
open Go.RowKit Go.Lib
theorem byte_of {t : ByteArray} {i : Nat} (h : i < t.size) : ((t[i]'h).toNat : Int) = (((t.data.toList.getD i 0).toNat : Nat) : Int) := by
  have h2 : i < t.data.toList.length := by rw [← Lib.size_eq t]; exact h
  have e : t[i]'h = t.data.toList[i]'h2 := rfl
  rw [e, List.getD_eq_getElem?_getD, List.getElem?_eq_getElem h2]
  rfl
end Go.Proofs.YtndifilhfiooaaaDoor
namespace Go.Proofs.YtndifilhfiooaaaDoor
set_option maxRecDepth 20000
set_option linter.unusedSimpArgs false
set_option linter.unusedVariables false
open Go.RowKit Go.Lib
theorem extract_mid (s : ByteArray) (a z : Nat) : s.extract a (a + z) = ⟨((s.data.toList.drop a).take z).toArray⟩ := by
  obtain ⟨⟨l⟩⟩ := s
  rw [ByteArray.extract_mk]
  congr 1
  apply Array.ext'
  show List.take (a + z - a) (List.drop a l) = _
  rw [Nat.add_sub_cancel_left]
end Go.Proofs.YtndifilhfiooaaaDoor
namespace Go.Proofs.YtndifilhfiooaaaDoor
set_option maxRecDepth 20000
set_option linter.unusedSimpArgs false
set_option linter.unusedVariables false
open Go.RowKit
theorem alloc_size1 (w : World) (o : Obj) : (w.alloc o).heap.size = w.heap.size + 1 := by simp
theorem runeLen_nx {l : List UInt8} {n k : Nat} (h : nx l = some (n, k)) : Lib.runeLen (n : Int) = (k : Int) := by
  obtain ⟨h1, _, h3⟩ := nx_iff.1 h
  subst h3
  unfold Lib.runeLen
  rw [if_neg (by omega)]
  rcases form_cases h1 with ⟨c1, e⟩ | ⟨c1, c2, e⟩ | ⟨c1, c2, c3, e⟩ | ⟨c1, c2, e⟩
  · rw [← List.length_map (f := UInt8.toNat), e, if_pos (by omega)]; rfl
  · rw [← List.length_map (f := UInt8.toNat), e, if_neg (by omega), if_pos (by omega)]; rfl
  · rw [← List.length_map (f := UInt8.toNat), e, if_neg (by omega), if_neg (by omega), if_neg (by omega), if_pos (by omega)]; rfl
  · rw [← List.length_map (f := UInt8.toNat), e, if_neg (by omega), if_neg (by omega), if_neg (by omega), if_neg (by omega), if_pos (by omega)]; rfl
/-- How far All has read. -/
structure Read (L : List UInt8) (pre : List (Nat × Nat)) (a : Nat) : Prop where
  le : a ≤ L.length
  eq : cpsAt L 0 = pre ++ cpsAt L a
  fin : endZ pre = (a : Int)
theorem Read.zero (L : List UInt8) : Read L [] 0 := ⟨Nat.zero_le _, rfl, rfl⟩
theorem Read.step {L : List UInt8} {pre : List (Nat × Nat)} {a n k : Nat} (h : Read L pre a) (hL : L.length ≤ 100000) (hx : nx (L.drop a) = some (n, k)) : Read L (pre ++ [(a, n)]) (a + k) := by
  have h1 := nx_lt hx
  refine ⟨h1.1, ?_, ?_⟩
  · rw [h.eq, cpsAt_some hx, List.append_assoc]
    rfl
  · rw [endZ_snoc, runeLen_nx hx]
    show wrap64 ((a : Int) + (k : Int)) = _
    rw [IntWalk.wrap64_in _ ⟨by omega, by omega⟩]
    omega
theorem Read.last {L : List UInt8} {pre : List (Nat × Nat)} {a : Nat} (h : Read L pre a) (hx : nx (L.drop a) = none) : cpsAt L 0 = pre ∧ endZ (cpsAt L 0) = (a : Int) := by
  have e : cpsAt L 0 = pre := by rw [h.eq, cpsAt_none hx, List.append_nil]
  exact ⟨e, by rw [e]; exact h.fin⟩
theorem Read.few {L : List UInt8} {pre : List (Nat × Nat)} {a : Nat} (h : Read L pre a) : pre.length ≤ L.length := by
  have h1 := cps_len (L.length - 0) L 0 rfl
  rw [h.eq, List.length_append] at h1
  omega
end Go.Proofs.YtndifilhfiooaaaDoor
namespace Go.Proofs.YtndifilhfiooaaaDoor
set_option maxRecDepth 20000
set_option linter.unusedSimpArgs false
set_option linter.unusedVariables false
open Go.RowKit Go.Lib
theorem rune_low {r x : Int} (h : x ∈ encodeRuneZ r) : 0 ≤ x ∧ x < 256 := by
  unfold encodeRuneZ at h
  split at h
  · simp at h; omega
  · split at h
    · simp at h; omega
    · split at h
      · simp at h; omega
      · split at h
        · simp at h; omega
        · simp at h; omega
theorem cells_bc (r : Int) : runeCells r = (encodeRune r).map bc := by
  unfold runeCells encodeRune
  rw [List.map_map]
  refine List.map_congr_left fun x hx => ?_
  obtain ⟨h0, h1⟩ := rune_low hx
  show Value.int .u8 x = Value.int .u8 ((x.toNat.toUInt8).toNat : Int)
  obtain ⟨n, rfl⟩ := Int.eq_ofNat_of_zero_le h0
  have := by_u8 n (by omega)
  rw [this]
theorem rune_few (r : Int) : (encodeRune r).length ≤ 4 := by
  unfold encodeRune encodeRuneZ
  split
  · simp
  · split
    · simp
    · split
      · simp
      · split
        · simp
        · simp
/-- The forms of the first k numbers. -/
def formsB (zs : List Int) : Nat → List UInt8
  | 0 => []
  | k + 1 => formsB zs k ++ encodeRune (zs.getD k 0)
theorem formsB_few (zs : List Int) : ∀ k, (formsB zs k).length ≤ 4 * k
  | 0 => Nat.le_refl _
  | k + 1 => by
    have h := formsB_few zs k
    have h2 := rune_few (zs.getD k 0)
    unfold formsB
    rw [List.length_append]
    omega
def okP (zs : List Int) (k : Nat) : Prop := ∀ i, i < k → Lib.validRune (zs.getD i 0) = true
def retP (L : List UInt8) (e : Int) : Ending := .returned (.tuple #[.string ⟨L.toArray⟩, .int .i64 e])
set_option maxHeartbeats 4000000 in
theorem put_any (b off len cap : Nat) (zs : List Int) (w : World) (hlen : len ≤ 100) (hb : 0 < len → b < w.heap.size) (hc : ∀ i, i < len → w.cell? ⟨b, off + i, none⟩ = some (.int .i32 (zs.getD i 0))) (hz : ∀ i, i < len → -2147483648 ≤ zs.getD i 0 ∧ zs.getD i 0 ≤ 2147483647) (a : Option Addr) (ha : 0 < len → a = some ⟨b, off, none⟩) :
    Calls Tryd.prog 49 #[.slice a len cap] w fun e w' => ((okP zs len ∧ e = retP (formsB zs len) 0) ∨ (¬ okP zs len ∧ e = retP [] 2)) ∧ Below w.heap.size w w' := by
  go_enter Tryd.func49, Tryd.ntmps49
  go_wp2_with fail
  go_loopw [4, 9] (fun v i wr => ∃ k : Nat, k ≤ len ∧ i = .int .i64 (k : Int) ∧ Hid (okP zs k) ∧ wr.ownsRow w.heap.size 5 1 v (formsB zs k).length ((formsB zs k).map bc) ∧ Below w.heap.size w wr) (fun _ i _ => len - (Go.RowKit.intOf i).toNat)
  case atStart => exact ⟨0, by omega, rfl, Lib.hid (fun i hi => absurd hi (by omega)), ⟨rfl, .inl ⟨rfl, rfl⟩⟩, Below.refl _ _⟩
  case round =>
    obtain ⟨k, hk, rfl, HO, hown, hbe⟩ := hrel
    by_cases hlt : k < len
    · have p1 : (k : Int) < (len : Int) := by omega
      obtain rfl := ha (by omega)
      have hb0 := hb (by omega)
      have hck : wr.cell? ⟨b, off + k, none⟩ = some (.int .i32 (zs.getD k 0)) := (hbe.cell (p := ⟨b, off + k, none⟩) hb0).trans (hc k hlt)
      have hzk := hz k hlt
      have HF : Hid (formsB zs (k + 1) = formsB zs k ++ encodeRune (zs.getD k 0)) := rfl
      have hfew := formsB_few zs k
      have HP : Hid (okP zs (k + 1) ↔ Lib.validRune (zs.getD k 0) = true) := ⟨fun h => h k (by omega), fun h i hi => by
        rcases Nat.eq_or_lt_of_le (Nat.le_of_lt_succ hi) with e | e
        · rw [e]; exact h
        · exact HO.out i e⟩
      have HN : Hid (okP zs len → okP zs (k + 1)) := fun h i hi => h i (by omega)
      have hle := hbe.size
      obtain ⟨r, hr⟩ : ∃ r, zs.getD k 0 = r := ⟨_, rfl⟩
      rw [hr] at hck hzk HF HP
      have KV := Lib.hid (fun w => Tryd.utf8_ValidRune r w)
      obtain ⟨F, hF⟩ : ∃ F, formsB zs k = F := ⟨_, rfl⟩
      rw [hF] at hown HF hfew
      clear hr hF
      cases hv : Lib.validRune r with
      | true =>
        rw [hv] at KV
        have HO2 := Lib.hid (HP.out.2 hv)
        clear hv HO HP HN
        go_wp2_with fail
        refine (KV.out _).mono ?_
        rintro e w1 ⟨rfl, rfl⟩
        go_wp2_with fail
        refine (Tryd.utf8_AppendRune_plain w.heap.size u4 F.length (F.map bc) r hzk.1 hzk.2 _ hown (by omega) hle).mono ?_
        rintro e w2 ⟨v2, rfl, hown2, o, hg⟩
        go_wp2_with fail
        go_roundw
        case rel =>
          refine ⟨k + 1, by omega, congrArg (Value.int .i64) (by omega), HO2, ?_, (gr_alloc hbe o).grown hg (by rw [alloc_size1]; omega) (fun j hj => (hown.lt j hj).1)⟩
          rw [HF.out, List.map_append, ← cells_bc, List.length_append, show (encodeRune r).length = (runeCells r).length by rw [cells_bc, List.length_map]]
          exact hown2
        case measure =>
          simp [Go.RowKit.intOf]
          omega
      | false =>
        rw [hv] at KV
        have HNO : Hid (¬ okP zs len) := fun h => by
          have := HP.out.1 (HN.out h)
          rw [hv] at this
          cases this
        clear hv HO HP HN
        go_wp2_with fail
        refine (KV.out _).mono ?_
        rintro e w1 ⟨rfl, rfl⟩
        go_wp2_with fail
        go_ret2
        exact ⟨.inr ⟨HNO.out, rfl⟩, hbe⟩
    · obtain rfl : k = len := by omega
      have p1 : ¬ (k : Int) < (k : Int) := by omega
      have HCV := own_string (P := Tryd.prog) (t := 40) (ty := 9) Tryd.underlying40 Tryd.underlying5 Tryd.underlying9 hown
      clear ha hb hc hz
      go_wp2_with fail
      go_ret2
      exact ⟨.inl ⟨HO.out, rfl⟩, hbe⟩
end Go.Proofs.YtndifilhfiooaaaDoor
namespace Go.Proofs.YtndifilhfiooaaaDoor
set_option maxRecDepth 20000
set_option linter.unusedSimpArgs false
set_option linter.unusedVariables false
open Go.RowKit Go.Lib
end Go.Proofs.YtndifilhfiooaaaDoor
namespace Go.Proofs.YtndifilhfiooaaaDoor
set_option maxRecDepth 20000
set_option linter.unusedSimpArgs false
set_option linter.unusedVariables false
open Go.RowKit Go.Lib
end Go.Proofs.YtndifilhfiooaaaDoor
namespace Go.Proofs.YtndifilhfiooaaaDoor
set_option maxRecDepth 20000
set_option linter.unusedSimpArgs false
set_option linter.unusedVariables false
open Go.RowKit Go.Lib
end Go.Proofs.YtndifilhfiooaaaDoor
namespace Go.Proofs.YtndifilhfiooaaaDoor
set_option maxRecDepth 20000
set_option linter.unusedSimpArgs false
set_option linter.unusedVariables false
open Go.RowKit Go.Lib
theorem valid_of_cp {n : Nat} (h : isCp n) : Lib.validRune (n : Int) = true := by
  unfold isCp at h
  unfold Lib.validRune
  rw [decide_eq_true_eq]
  omega
end Go.Proofs.YtndifilhfiooaaaDoor
namespace Go.Proofs.YtndifilhfiooaaaDoor
set_option maxRecDepth 20000
set_option linter.unusedSimpArgs false
set_option linter.unusedVariables false
open Go.RowKit Go.Lib Go.Shelf
attribute [local go_sem] Oper.semAt_some
abbrev BTy : TypeId := 92
abbrev ByTy : TypeId := 5
theorem ptrBuilder : ∃ j, Tryd.prog.info? BTy = some j ∧ j.size = 2 := by
  obtain ⟨j, hj, hjs⟩ := Option.map_eq_some_iff.1 (show (Tryd.prog.info? BTy).map (·.size) = some 2 from by kernel_rfl)
  exact ⟨j, hj, hjs⟩
theorem liesBuilder : liesAt Tryd.prog Tryd.prog.depth BTy (2 / Tryd.prog.cellsOf BTy) 0 BTy 1 = true := by kernel_rfl
set_option maxRecDepth 100000 in
theorem bcheck_used (b : Nat) (w : World) (h0 : w.cell? ⟨b, 0, none⟩ = some (.pointer (some ⟨b, 0, none⟩))) :
    Calls Tryd.prog 51 #[.pointer (some ⟨b, 0, none⟩)] w fun e w' => e = .returned (.tuple #[]) ∧ w' = w := by
  obtain ⟨j, hj, _⟩ := ptrBuilder
  go_enter Tryd.func51, Tryd.ntmps51
  go_wp2
  rw [Lib.run_neq_ptr_same w _ Tryd.underlying90 hj]
  go_wp2
  go_end0
  exact ⟨rfl, rfl⟩
set_option maxRecDepth 100000 in
theorem bcheck_fresh (b : Nat) (w : World) (h0 : w.cell? ⟨b, 0, none⟩ = some (.pointer none)) (hsh : w.shape? b = some (BTy, 2)) (hfz : w.frozen? ⟨b, 0, none⟩ = false) :
    Calls Tryd.prog 51 #[.pointer (some ⟨b, 0, none⟩)] w fun e w' => e = .returned (.tuple #[]) ∧ w' = w.setCell ⟨b, 0, none⟩ (.pointer (some ⟨b, 0, none⟩)) := by
  obtain ⟨j, hj, hjs⟩ := ptrBuilder
  go_enter Tryd.func51, Tryd.ntmps51
  go_wp2
  rw [Lib.run_to_unsafe w ⟨b, 0, none⟩ Tryd.underlying90 Tryd.underlying108 hj (by rw [hjs]; decide) hsh (Nat.zero_lt_succ 1)]
  simp only [Result.andThen]
  rw [Oper.upon_value]
  go_wp2
  rw [run_callFunc_extern Tryd.func57 (by kernel_rfl) (by kernel_rfl) (by kernel_rfl) (e := Extern.AbiNoEscape.same) (by kernel_rfl)]
  rw [Lib.run_noEscape]
  simp only [Result.andThen]
  rw [Oper.upon_value]
  go_wp2
  rw [Lib.run_from_unsafe w ⟨b, 0, none⟩ Tryd.underlying108 Tryd.underlying90 hj hsh liesBuilder]
  simp only [Result.andThen]
  rw [Oper.upon_value]
  go_wp2
  go_end0
  exact ⟨rfl, rfl⟩
abbrev BAt (B b : Nat) (bs : List Value) (w : World) : Prop := Lib.BuilderAtF BTy ByTy B b (.pointer (some ⟨b, 0, none⟩)) bs w
abbrev IsB (B b : Nat) (bs : List Value) (w : World) : Prop := Lib.IsBuilderF BTy ByTy B b bs w
theorem bcheck_any (B b : Nat) (bs : List Value) (w : World) (h : IsB B b bs w) :
    Calls Tryd.prog 51 #[.pointer (some ⟨b, 0, none⟩)] w fun e w' => e = .returned (.tuple #[]) ∧ BAt B b bs w' ∧ Below B w w' ∧ Lib.OthersKept ByTy (some b) w w' := by
  rcases h with h | h
  · refine (bcheck_fresh b w h.cell0 h.shape h.frozen0).mono ?_
    rintro e w' ⟨rfl, rfl⟩
    exact ⟨rfl, h.used _, (Below.refl B w).setCell (p := ⟨b, 0, none⟩) h.1 _, (Lib.OthersKept.refl _ _ w).setCell ⟨b, 0, none⟩ rfl _⟩
  · refine (bcheck_used b w h.cell0).mono ?_
    rintro e w' ⟨rfl, rfl⟩
    exact ⟨rfl, h, Below.refl B _, Lib.OthersKept.refl _ _ _⟩
set_option maxHeartbeats 1000000 in
set_option maxRecDepth 100000 in
/-- WriteString appends a string. -/
theorem bwrites_any (B b : Nat) (bs : List Value) (s : ByteArray) (w : World) (h : IsB B b bs w) (hlen : bs.length + s.size ≤ 140737488355328) (hBw : B ≤ w.heap.size) :
    Calls Tryd.prog 46 #[.pointer (some ⟨b, 0, none⟩), .string s] w fun e w' => e = .returned (.tuple #[.int .i64 s.size, .nilIface]) ∧ BAt B b (bs ++ Lib.strCells s) w' ∧ Below B w w' ∧ Lib.OthersKept ByTy (some b) w w' := by
  obtain ⟨i0, hi, hz⟩ := Option.map_eq_some_iff.1 (show (Tryd.prog.info? ByTy).map (fun i => (i.zero, i.size, i.bytes)) = some (some (.int .u8 0), 1, 1) from by kernel_rfl)
  obtain ⟨hz0, hz1, hz2⟩ : i0.zero = some (.int .u8 0) ∧ i0.size = 1 ∧ i0.bytes = 1 := by simpa [Prod.ext_iff] using hz
  go_enter Tryd.func46, Tryd.ntmps46
  go_wp2_with fail
  refine (bcheck_any B b bs _ h).mono ?_
  rintro e w1 ⟨rfl, h1, hb1, hk1⟩
  obtain ⟨hB, v, hbk, hown, hne⟩ := h1
  have c0 : w1.cell? ⟨b, 0, none⟩ = some (.pointer (some ⟨b, 0, none⟩)) := by rw [Lib.cell_of_heap hbk]; rfl
  have c1 : w1.cell? ⟨b, 1, none⟩ = some v := by rw [Lib.cell_of_heap hbk]; rfl
  go_wp2_with (at_builtin; refine Lib.wpList_append_own_stringF _ rfl _ _ 40 9 rfl B ByTy i0 Tryd.underlying40 Tryd.underlying9 hi hz0 hz1 hz2 _ _ _ rfl hown s rfl ?c3 ?c4 ?c5 ?_)
  case c3 => unfold maxLen; omega
  case c4 => omega
  case c5 => have := hb1.size; omega
  intro v' w2 hown' hgrow _
  have hlt : b < w1.heap.size := by
    rcases Nat.lt_or_ge b w1.heap.size with h' | h'
    · exact h'
    · simp [Array.getElem?_eq_none h'] at hbk
  have hb2 : w2.heap[b]? = some (.cells #[.pointer (some ⟨b, 0, none⟩), v] BTy (0, 0)) := by
    rw [hgrow.block b hlt (fun e => hne e.symm)]
    exact hbk
  have d0 : w2.cell? ⟨b, 0, none⟩ = some (.pointer (some ⟨b, 0, none⟩)) := by rw [Lib.cell_of_heap hb2]; rfl
  have d1 : w2.cell? ⟨b, 1, none⟩ = some v := by rw [Lib.cell_of_heap hb2]; rfl
  have f1 : w2.frozen? ⟨b, 1, none⟩ = false := Lib.frozen_of_heap hb2 1
  obtain ⟨ao, n', cap, rfl⟩ : ∃ ao n' cap, v' = .slice ao n' cap := by
    rcases hown'.2 with ⟨hv, _⟩ | ⟨g, cap, cur, fz, hv, _⟩
    · exact ⟨_, _, _, hv⟩
    · exact ⟨_, _, _, hv⟩
  go_wp2
  go_ret2
  refine ⟨rfl, ?_, ?_, (hk1.grown hgrow (Lib.ownsRowF_kind hown)).setCell ⟨b, 1, none⟩ rfl _⟩
  · exact Lib.BuilderAtF.put (T := BTy) (e := ByTy) hB hb2 (bs' := bs ++ Lib.strCells s) (by simpa [Lib.strCells_length] using hown') (by decide)
  · exact (hb1.grown hgrow (by have := hb1.size; omega) (fun k hk => (hown.lt k hk).1)).setCell (p := ⟨b, 1, none⟩) hB _
/-- A builder stands where all blocks from B on are as they were. -/
theorem IsB.keep {B b : Nat} {bs : List Value} {w w' : World} (h : IsB B b bs w) (hk : ∀ k, B ≤ k → k < w.heap.size → w'.heap[k]? = w.heap[k]?) : IsB B b bs w' := by
  have one : ∀ p, Lib.BuilderAtF BTy ByTy B b p bs w → Lib.BuilderAtF BTy ByTy B b p bs w' := by
    rintro p ⟨hB, v, hbk, hown, hne⟩
    refine ⟨hB, v, (hk b hB (Array.getElem?_eq_some_iff.1 hbk).1).trans hbk, ⟨hown.1, ?_⟩, hne⟩
    rcases hown.2 with hn | ⟨g, cap, cur, fz, rfl, hb, hg, rest⟩
    · exact .inl hn
    · exact .inr ⟨g, cap, cur, fz, rfl, hb, (hk g hb (Array.getElem?_eq_some_iff.1 hg).1).trans hg, rest⟩
  exact h.imp (one _) (one _)
end Go.Proofs.YtndifilhfiooaaaDoor
namespace Go.Proofs.YtndifilhfiooaaaDoor
set_option maxRecDepth 20000
set_option linter.unusedSimpArgs false
set_option linter.unusedVariables false
open Go
theorem nm0 (a : Act) (t : Tmp) (v : Value) : a.put (some t) v = { tmps := a.tmps.setIfInBounds t v, defers := a.defers } := rfl
theorem nm1 {α : Type} (l : List α) (i : Nat) (a : α) : l.toArray.setIfInBounds i a = (l.set i a).toArray := List.setIfInBounds_toArray l i a
theorem nm2 {α : Type} (x : α) (l : List α) (a : α) : (x :: l).set 0 a = a :: l := rfl
theorem nm3 {α : Type} (x : α) (l : List α) (i : Nat) (a : α) : (x :: l).set (i + 1) a = x :: l.set i a := rfl
end Go.Proofs.YtndifilhfiooaaaDoor
namespace Go.Proofs.YtndifilhfiooaaaDoor
set_option maxRecDepth 20000
set_option linter.unusedSimpArgs false
set_option linter.unusedVariables false
open Go.RowKit Go.Sort
/-- What is known of an operation's value: which it is, or what it meets in a world. -/
inductive Tk where
  | val (v : Value)
  | pr (p : Value → World → Prop)
def Tk.holds : Tk → Value → World → Prop
  | .val c, v, _ => v = c
  | .pr p, v, w => p v w
/-- It stays so when blocks are made. -/
def Tk.Stable : Tk → Prop
  | .val _ => True
  | .pr p => ∀ v w w', p v w → Below w.heap.size w w' → p v w'
theorem Tk.Stable.keep {T : Tk} (h : T.Stable) {v : Value} {w w' : World} (hv : T.holds v w) (hb : Below w.heap.size w w') : T.holds v w' := by
  cases T with
  | val c => exact hv
  | pr p => exact h v w w' hv hb
def dstOf (ops : Array Oper) (j : Nat) : Option Tmp := (ops[j]?).bind (·.dst)
def depsOf (o : Oper) : List Nat := (o.after.toList.filter fun e => Region.binds .any e).map (·.on)
/-- With values of these operations, of which so much is known, in their places. -/
def Given (ops : Array Oper) (w : World) : List (Nat × (Value → World → Prop)) → Act → (Act → Prop) → Prop
  | [], A, k => k A
  | q :: ps, A, k => ∀ u, q.2 u w → Given ops w ps (A.put (dstOf ops q.1) u) k
/-- The operation waits for that one, and looks at its value. -/
def waits (ops : Array Oper) (o : Oper) (q : Nat × (Value → World → Prop)) : Bool := (depsOf o).contains q.1 && (o.looksAt ops).any (fun t => dstOf ops q.1 == some t)
def upOK (P : Program) (T : Tk) (w : World) : Result Next → Prop
  | .ok (.value u) w' => T.holds u w' ∧ Below w.heap.size w w'
  | .ok .skip w' => T.holds undef w' ∧ Below w.heap.size w w'
  | .ok (.enter f args) w' => w' = w ∧ Calls P f args w (fun e w'' => ∃ u, e = .returned u ∧ T.holds u w'' ∧ Below w.heap.size w w'')
  | _ => False
def opOK (P : Program) (ops : Array Oper) (o : Oper) (T : Tk) (w : World) (A : Act) : Prop :=
  if Region.wanted o (yielded ops A.tmps) = true then upOK P T w ((execOp A.eval o).run P w) else T.holds undef w
/-- What has come up so far, in one state: the values that are known, and what is known of the others. -/
structure Acc (ops : Array Oper) (a : Act) (Ts : List Tk) (i : Nat) (A : Act) (Ps : List (Nat × (Value → World → Prop))) : Prop where
  size : A.tmps.size = a.tmps.size
  defers : A.defers = a.defers
  out : ∀ t, (∀ j, j < i → dstOf ops j ≠ some t) → A.tmps[t]? = a.tmps[t]?
  vals : ∀ j, j < i → ∀ v d, Ts[j]? = some (.val v) → dstOf ops j = some d → A.tmps[d]? = some v
  prs : ∀ j, j < i → ∀ p, Ts[j]? = some (.pr p) → (j, p) ∈ Ps
  back : ∀ q ∈ Ps, q.1 < i ∧ Ts[q.1]? = some (.pr q.2)
theorem Acc.more {ops : Array Oper} {a : Act} {Ts : List Tk} {i : Nat} {A : Act} {Ps : List (Nat × (Value → World → Prop))} (h : Acc ops a Ts i A Ps) (hl : Ts.length = i) (Us : List Tk) : Acc ops a (Ts ++ Us) i A Ps :=
  ⟨h.size, h.defers, h.out, fun j hj v d hv => h.vals j hj v d (by rwa [List.getElem?_append_left (by omega)] at hv),
    fun j hj p hp => h.prs j hj p (by rwa [List.getElem?_append_left (by omega)] at hp),
    fun q hq => ⟨(h.back q hq).1, by rw [List.getElem?_append_left (by have := (h.back q hq).1; omega)]; exact (h.back q hq).2⟩⟩
/-- What is asked of the region's form. -/
def invB (ops : Array Oper) (n : Nat) : Bool :=
  Region.noSelect ops && (List.range ops.size).all fun i => match ops[i]? with
    | none => true
    | some o => (depsOf o).all (fun j => decide (j < i)) &&
      (match o.dst with
       | none => true
       | some d => decide (d < n) && (List.range i).all (fun j => dstOf ops j != some d)) &&
      (o.looksAt ops).all (fun t => (depsOf o).any (fun j => dstOf ops j == some t) || (List.range ops.size).all (fun j => dstOf ops j != some t))

def SameAt (N : Tmp → Prop) (A B : Act) : Prop := ∀ t, N t → B.tmps[t]? = A.tmps[t]?
theorem put_at {A : Act} {x : Option Tmp} {v : Value} {t : Tmp} (h : x ≠ some t) : (A.put x v).tmps[t]? = A.tmps[t]? := by
  cases x with
  | none => rfl
  | some d =>
    have hne : d ≠ t := fun e => h (by rw [e])
    simp [Act.put, Array.getElem?_setIfInBounds_ne hne]
theorem put_here {A : Act} {d : Tmp} {v : Value} (h : d < A.tmps.size) : (A.put (some d) v).tmps[d]? = some v := by
  simp [Act.put, h]
theorem put_size (A : Act) (x : Option Tmp) (v : Value) : (A.put x v).tmps.size = A.tmps.size := by
  cases x <;> simp [Act.put]
theorem put_defers (A : Act) (x : Option Tmp) (v : Value) : (A.put x v).defers = A.defers := by
  cases x <;> rfl
theorem given_use {ops : Array Oper} {w : World} {B : Act} : ∀ (ps : List (Nat × (Value → World → Prop))) (A : Act) (k : Act → Prop) (N : Tmp → Prop), SameAt N A B → A.tmps.size = B.tmps.size → Given ops w ps A k →
    (∀ q ∈ ps, ∃ u, q.2 u w ∧ ∀ d, dstOf ops q.1 = some d → B.tmps[d]? = some u) →
    ∃ A', k A' ∧ SameAt (fun t => N t ∨ ∃ q ∈ ps, dstOf ops q.1 = some t) A' B ∧ A'.defers = A.defers ∧ A'.tmps.size = B.tmps.size
  | [], A, k, N, hs, hz, h, _ => ⟨A, h, fun t ht => hs t (ht.resolve_right (fun ⟨_, hj, _⟩ => by cases hj)), rfl, hz⟩
  | q :: ps, A, k, N, hs, hz, h, hv => by
    obtain ⟨u, hu, hd⟩ := hv q (by simp)
    have h' : Given ops w ps (A.put (dstOf ops q.1) u) k := h u hu
    have hs' : SameAt (fun t => N t ∨ dstOf ops q.1 = some t) (A.put (dstOf ops q.1) u) B := fun t ht => by
      by_cases hj : dstOf ops q.1 = some t
      · rw [hd t hj, hj]
        have : t < B.tmps.size := (Array.getElem?_eq_some_iff.1 (hd t hj)).1
        exact (put_here (by rw [hz]; exact this)).symm
      · rw [put_at hj]
        exact hs t (ht.resolve_right hj)
    obtain ⟨A', hk, hS, hD, hZ⟩ := given_use ps _ k _ hs' (by rw [put_size]; exact hz) h' (fun i hi => hv i (by simp [hi]))
    refine ⟨A', hk, fun t ht => hS t ?_, by rw [hD, put_defers], hZ⟩
    rcases ht with h | ⟨i, hi, he⟩
    · exact .inl (.inl h)
    · rcases List.mem_cons.1 hi with rfl | hi
      · exact .inl (.inr he)
      · exact .inr ⟨i, hi, he⟩
theorem eval_same {N : Tmp → Prop} {A B : Act} (hs : SameAt N A B) (x : Operand) (h : ∀ t, x = .tmp t → N t) : A.eval x = B.eval x := by
  cases x with
  | tmp t =>
    have := hs t (h t rfl)
    simp [Act.eval, Array.getD_eq_getD_getElem?, this]
  | _ => rfl
theorem count_set : ∀ (l : List Bool) (i : Nat), l[i]? = some false → (l.set i true).count false + 1 = l.count false
  | [], _, h => by simp at h
  | b :: l, 0, h => by simp at h; subst h; simp
  | b :: l, i + 1, h => by
    have := count_set l i (by simpa using h)
    simp only [List.set_cons_succ, List.count_cons]
    omega
theorem count_zero : ∀ (l : List Bool), l.count false = 0 → ∀ i : Nat, l[i]? ≠ some false
  | [], _, i => by simp
  | b :: l, h, 0 => by
    cases b
    · simp at h
    · simp
  | b :: l, h, i + 1 => by
    have := count_zero l (by rw [List.count_cons] at h; omega) i
    simpa using this
theorem getD_true_false {l : Array Bool} {i : Nat} : l.getD i true = false ↔ l.toList[i]? = some false := by
  rw [Array.getElem?_toList, Array.getD_eq_getD_getElem?]
  cases h : l[i]? with
  | none => simp
  | some b => cases b <;> simp
theorem getD_false_true {l : Array Bool} {i : Nat} : l.getD i false = true ↔ l[i]? = some true := by
  rw [Array.getD_eq_getD_getElem?]
  cases h : l[i]? with
  | none => simp
  | some b => cases b <;> simp
theorem dst_apart {ops : Array Oper} {n : Nat} (hB : invB ops n = true) {i j : Nat} {d : Tmp} (hi : dstOf ops i = some d) (hj : dstOf ops j = some d) : i = j := by
  have key : ∀ i j, i < j → dstOf ops i = some d → dstOf ops j = some d → False := fun i j hij hi hj => by
    obtain ⟨o, ho, hd⟩ := Option.bind_eq_some_iff.1 hj
    have hlt : j < ops.size := (Array.getElem?_eq_some_iff.1 ho).1
    simp only [invB, Bool.and_eq_true, List.all_eq_true, List.mem_range] at hB
    have h := hB.2 j hlt
    simp only [ho, hd, Bool.and_eq_true, List.all_eq_true, List.mem_range] at h
    have := h.1.2.2 i hij
    rw [hi] at this
    simp at this
  rcases Nat.lt_trichotomy i j with h | h | h
  · exact (key i j h hi hj).elim
  · exact h
  · exact (key j i h hj hi).elim
structure InvAt (ops : Array Oper) (Ts : List Tk) (a : Act) (w0 : World) (listed : Array Bool) (B : Act) (w : World) : Prop where
  below : Below w0.heap.size w0 w
  defers : B.defers = a.defers
  size : B.tmps.size = a.tmps.size
  len : listed.size = ops.size
  out : ∀ t, (∀ j, listed[j]? = some true → dstOf ops j ≠ some t) → B.tmps[t]? = a.tmps[t]?
  known : ∀ j, listed[j]? = some true → ∃ T u, Ts[j]? = some T ∧ T.holds u w ∧ ∀ d, dstOf ops j = some d → B.tmps[d]? = some u
section
variable {P : Program} {ops : Array Oper} {w0 : World} {Q : Act → World → Prop} {o : Oper} {rest : List Oper} {k : Nat} {A : Act} {Ps : List (Nat × (Value → World → Prop))}
theorem mk_at (W : World) (ob : Obj) : (W.alloc ob).heap[W.heap.size]? = some ob ∧ Below W.heap.size W (W.alloc ob) :=
  ⟨by show (W.heap.push ob)[W.heap.size]? = some ob; simp, (Below.refl W.heap.size W).alloc (Nat.le_refl _) ob⟩
end
end Go.Proofs.YtndifilhfiooaaaDoor
