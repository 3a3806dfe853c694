/- (*sha5.Hash).Write (layer 18): what it comes to. -/
import Derived.Test.YtmjbhmpogpagjaaS5J
import Derived.Test.YtmjbhmpogpagjaaBlkR
import Derived.Test.YtmjbhmpogpagjaaS5G
namespace Go.Proofs.Ytmjbhmpogpagjaa
set_option maxRecDepth 20000
set_option linter.unusedSimpArgs false
set_option linter.unusedVariables false
open Go.RowKit
/-- A hash that is under way: L is written so far. -/
def IsHash (w : World) (h g : Nat) (L : List UInt8) : Prop :=
  h ≠ g ∧ ∃ bl q, Cuts 128 L bl q ∧ w.heap[h]? = some (.cells (hrow g (hashL begin8 keys80 bl) keys80).toArray 42 (0, 0)) ∧ IsBuf w g 128 q L.length
/-- Nothing that was there is another, but for two blocks. -/
structure Two (w w' : World) (h g : Nat) : Prop where
  os : w'.os = w.os
  tape : w'.tape = w.tape
  output : w'.output = w.output
  size : w.heap.size ≤ w'.heap.size
  block : ∀ i, i < w.heap.size → i ≠ h → i ≠ g → w'.heap[i]? = w.heap[i]?
theorem Two.trans {a b c : World} {h g : Nat} (x : Two a b h g) (y : Two b c h g) : Two a c h g :=
  ⟨y.os.trans x.os, y.tape.trans x.tape, y.output.trans x.output, Nat.le_trans x.size y.size, fun i hi h1 h2 => (y.block i (Nat.lt_of_lt_of_le hi x.size) h1 h2).trans (x.block i hi h1 h2)⟩
theorem Two.of_below {a b : World} {h g : Nat} (x : Below a.heap.size a b) : Two a b h g := ⟨x.os, x.tape, x.output, x.size, fun i hi _ _ => x.block i hi⟩
theorem Two.of_h {a b : World} {h g : Nat} (x : a.grownBy b (some h)) : Two a b h g := ⟨x.os, x.tape, x.output, x.size, fun i hi h1 _ => x.block i hi (by simpa using h1)⟩
theorem Two.of_g {a b : World} {h g : Nat} (x : a.grownBy b (some g)) : Two a b h g := ⟨x.os, x.tape, x.output, x.size, fun i hi _ h2 => x.block i hi (by simpa using h2)⟩
theorem Two.refl (w : World) (h g : Nat) : Two w w h g := ⟨rfl, rfl, rfl, Nat.le_refl _, fun _ _ _ _ => rfl⟩
theorem IsHash.lt {w : World} {h g : Nat} {L : List UInt8} (x : IsHash w h g L) : h < w.heap.size ∧ g < w.heap.size := by
  obtain ⟨_, bl, q, _, hh, hb⟩ := x
  exact ⟨(Array.getElem?_eq_some_iff.1 hh).1, hb.lt⟩
theorem IsHash.of {w w' : World} {h g : Nat} {L : List UInt8} (x : IsHash w h g L) (e1 : w'.heap[h]? = w.heap[h]?) (e2 : w'.heap[g]? = w.heap[g]?) : IsHash w' h g L := by
  obtain ⟨hne, bl, q, hc, hh, hb⟩ := x
  exact ⟨hne, bl, q, hc, e1.trans hh, hb.of_block e2⟩
theorem IsHash.below {w w' : World} {h g : Nat} {L : List UInt8} (x : IsHash w h g L) (b : Below w.heap.size w w') : IsHash w' h g L :=
  x.of (b.block h x.lt.1) (b.block g x.lt.2)
theorem hashL_app (h k : List Nat) (a b : List (List UInt8)) : hashL h k (a ++ b) = hashL (hashL h k a) k b := by unfold hashL; rw [List.foldl_append]
theorem hashL_take (h k : List Nat) (bl : List (List UInt8)) (j : Nat) (hj : j < bl.length) : hashL h k (bl.take (j + 1)) = stepN (hashL h k (bl.take j)) k (blockM ⟨(bl.getD j []).toArray⟩ 16) := by
  rw [take_more bl [] j hj, hashL_snoc]
theorem own_strs {W : World} {base : Nat} {v : Value} {bl : List (List UInt8)} (h : W.ownsRow base 9 1 v bl.length (bl.map strV)) :
    ∃ a cap, v = .slice a bl.length cap ∧ ∀ i, i < bl.length → ∃ g1, a = some ⟨g1, 0, none⟩ ∧ base ≤ g1 ∧ g1 < W.heap.size ∧ W.cell? ⟨g1, i, none⟩ = some (strV (bl.getD i [])) := by
  by_cases h0 : bl.length = 0
  · rw [h0] at h
    obtain ⟨a, cap, rfl⟩ := own_none h
    exact ⟨a, cap, by rw [h0], fun i hi => by omega⟩
  · obtain ⟨g, cap, rfl, h1, h2, h3⟩ := own_texts h (by omega) rfl
    exact ⟨_, cap, rfl, fun i hi => ⟨g, rfl, h1, h2, h3 i hi⟩⟩
theorem hwrite_nil (v : Value) (w : World) : Calls Try.prog 8 #[.pointer none, v] w fun e w' => e = .returned (.tuple #[]) ∧ w = w' := by
  go_enter Try.func8, Try.ntmps8
  go_wp2_with fail
  first
    | refine bodyPost_end (results_none Try.results8 _ _ _) rfl ?_
    | refine bodyPost_ret (results_none Try.results8 _ _ _) rfl ?_
  exact ⟨rfl, rfl⟩
set_option maxRecDepth 20000 in
set_option maxHeartbeats 4000000 in
theorem hwrite_any (h g cap : Nat) (a : Option Addr) (L : List UInt8) (ss : List (List UInt8)) (w : World) (hH : IsHash w h g L)
    (hs : ss = [] ∨ ∃ b off, a = some ⟨b, off, none⟩ ∧ b ≠ h ∧ b ≠ g ∧ ∀ i, (hi : i < ss.length) → w.cell? ⟨b, off + i, none⟩ = some (strV ss[i])) (hss : ss.length ≤ 1000) (hn : L.length + ss.flatten.length ≤ 1099511627776) :
    Calls Try.prog 8 #[.pointer (some ⟨h, 0, none⟩), .slice a ss.length cap] w fun e w' => e = .returned (.tuple #[]) ∧ IsHash w' h g (L ++ ss.flatten) ∧ Two w w' h g := by
  have hlt := hH.lt
  obtain ⟨hne, bl0, q0, hc0, hh, hb⟩ := hH
  have hqlt := hc0.2.2
  have KW := Lib.hid (bwrite_any g 128 L.length cap a q0 ss w hb hqlt (by decide) (hs.imp id fun ⟨b, off, e, _, h2, h3⟩ => ⟨b, off, e, h2, h3⟩) hss hn)
  obtain ⟨c0, _⟩ := arr_get (i := 0) (v := .pointer (some ⟨g, 0, none⟩)) hh rfl
  have HH := Lib.hid hh
  have HC0 := Lib.hid hc0
  have HLT := Lib.hid hlt
  have HN := Lib.hid hn
  have HQL := Lib.hid hqlt
  have HNE := Lib.hid hne
  clear hs hss hn hh hb hc0 hlt hqlt hne
  go_enter Try.func8, Try.ntmps8
  go_wp2_with fail
  refine KW.out.mono ?_
  rintro e w1 ⟨v, bl, q', rfl, hown, hcut, hbuf, hgr⟩
  have h1 := (hgr.block h HLT.out.1 (by simpa using HNE.out)).trans HH.out
  have hlen : bl.length ≤ 1099511627776 + 128 := by
    have hf := flat_many (by decide : 0 < 128) hcut.2.1
    have e := congrArg List.length hcut.1
    rw [List.length_append, List.length_append] at e
    have := HN.out
    have := HQL.out
    omega
  obtain ⟨a2, cap2, rfl, hcell⟩ := own_strs hown
  obtain ⟨S0, hS0⟩ : ∃ S0, hashL begin8 keys80 bl0 = S0 := ⟨_, rfl⟩
  have hok := hashL_ok begin8 keys80 begin_ok.1 begin_ok.2 bl0
  rw [hS0] at h1 hok
  have H1 := Lib.hid h1
  have HS0 := Lib.hid hS0
  have HOK := Lib.hid hok
  have HCU := Lib.hid hcut
  have HBU := Lib.hid hbuf
  have HGR := Lib.hid hgr
  have HCE := Lib.hid hcell
  have HLE := Lib.hid hlen
  clear h1 hS0 hok hcut hbuf hgr hcell hlen hown HH KW c0
  go_wp2_with fail
  go_loopw [16] (fun i W => ∃ j : Nat, j ≤ bl.length ∧ i = .int .i64 (j : Int) ∧ W.heap[h]? = some (.cells (hrow g (hashL S0 keys80 (bl.take j)) keys80).toArray 42 (0, 0)) ∧ w1.grownBy W (some h)) (fun i _ => bl.length - (intOf i).toNat)
  case atStart => exact ⟨0, by omega, rfl, H1.out, grown_refl _ _⟩
  case round =>
    clear H1
    obtain ⟨j, hj, rfl, rh, rg⟩ := hrel
    by_cases hlt : j < bl.length
    · have p1 : (j : Int) < (bl.length : Int) := by omega
      obtain ⟨g1, rfl, hg1, hgl, hc⟩ := HCE.out j hlt
      have hgh : g1 ≠ h := by have := HLT.out.1; omega
      have ck : wr.cell? ⟨g1, j, none⟩ = some (strV (bl.getD j [])) := by
        rw [← hc]
        exact World.cell?_of_block (w := w1) (a := ⟨g1, j, none⟩) (rg.block g1 hgl (by simpa using hgh))
      have hBl : (bl.getD j []).length = 128 := by
        rw [List.getD_eq_getElem?_getD, List.getElem?_eq_getElem hlt]
        exact HCU.out.2.1 _ (List.getElem_mem _)
      have hnx := hashL_take S0 keys80 bl j hlt
      have hok2 := hashL_ok S0 keys80 HOK.out.1 HOK.out.2 (bl.take j)
      obtain ⟨B, hB⟩ : ∃ B : ByteArray, B = ⟨(bl.getD j []).toArray⟩ := ⟨_, rfl⟩
      have hBs : B.size = 128 := by rw [hB]; exact hBl
      rw [show strV (bl.getD j []) = .string B by rw [hB]; rfl] at ck
      rw [← hB] at hnx
      have KT := Lib.hid (take_any h g (hashL S0 keys80 (bl.take j)) keys80 B wr rh hok2.1 keys_ok.1 hok2.2 keys_ok.2 hBs)
      rw [← hnx] at KT
      have RG := Lib.hid rg
      have HLJ := Lib.hid hlt
      have wj : IntKind.i64.wrap ((j : Int) + 1) = (j : Int) + 1 := by have := HLE.out; rw [IntKind.wrap_i64]; omega
      have lj : (j : Int) + 1 ≤ 1099511627776 + 128 := by have := HLE.out; omega
      clear rh rg hc hgh hBl hnx hok2 hB hBs hg1 hgl hlt hj
      go_wp2_with fail
      refine KT.out.mono ?_
      rintro e w2 ⟨rfl, eh, eg⟩
      have EH := Lib.hid eh
      have EG := Lib.hid (grown_same RG.out eg)
      clear eh eg KT RG ck
      go_wp2_with fail
      go_roundw
      case rel => exact ⟨j + 1, HLJ.out, rfl, EH.out, EG.out⟩
      case measure =>
        have := HLJ.out
        simp [intOf]
        omega
    · have p1 : ¬ (j : Int) < (bl.length : Int) := by omega
      have hjl : j = bl.length := by omega
      subst hjl
      rw [List.take_length] at rh
      have RH := Lib.hid rh
      have RG := Lib.hid rg
      clear rh rg hj hlt
      go_wp2_with fail
      first
        | refine bodyPost_end (results_none Try.results8 _ _ _) rfl ?_
        | refine bodyPost_ret (results_none Try.results8 _ _ _) rfl ?_
      have rh := RH.out
      rw [← HS0.out, ← hashL_app] at rh
      refine ⟨rfl, ⟨HNE.out, bl0 ++ bl, q', HC0.out.next HCU.out, rh, ?_⟩, (Two.of_g HGR.out).trans (Two.of_h RG.out)⟩
      rw [List.length_append]
      exact HBU.out.of_block (RG.out.block g (Nat.lt_of_lt_of_le HLT.out.2 HGR.out.size) (by simpa using Ne.symm HNE.out))
end Go.Proofs.Ytmjbhmpogpagjaa
