/- report.Lines (layer 49): the iterator. -/
import Derived.Test.YtdnkpclpcelbaaaDoorRepD
import Derived.Test.YtdnkpclpcelbaaaDoorRepC
import Derived.Test.YtdnkpclpcelbaaaDoorRny
import Derived.Test.YtdnkpclpcelbaaaDoorShelf
import Derived.Shelf.Abstract
import Derived.Shelf.RegionOpen
import Derived.RangeFuncBound
import Derived.RangeFuncCalls
import Derived.RangeFuncLeaves
import Derived.OwnWalkIn
import Derived.TacticsInMore
import Derived.LoopNIn
import Derived.LoopIn
import Derived.Lib.IndexBytes
namespace Go.Proofs.YtdnkpclpcelbaaaDoor
set_option maxRecDepth 20000
set_option linter.unusedSimpArgs false
set_option linter.unusedVariables false
open Go.RowKit Go.Lib Go.Shelf Go.Sort
attribute [local go_sem] Oper.semAt_some
theorem below_none {w w' : World} (h : Below w.heap.size w w') : w.grownBy w' none := ⟨h.os, h.tape, h.output, h.size, fun k hk _ => h.block k hk⟩
theorem blk_of_cell {W : World} {a : Addr} {v : Value} (h : W.cell? a = some v) : a.block < W.heap.size := by
  apply Nat.lt_of_not_le
  intro hle
  unfold World.cell? at h
  rw [Array.getElem?_eq_none hle] at h
  cases h
theorem bk_cell {w : World} {p i : Nat} {cs : Array Value} {T : TypeId} {v : Value} (h : w.heap[p]? = some (.cells cs T (0, 0))) (hv : cs[i]? = some v) : w.cell? ⟨p, i, none⟩ = some v := by rw [Lib.cell_of_heap h]; exact hv
abbrev fnDig : Value := .func (.func 62) #[] #[]
theorem cut_lns (r : List UInt8) (h : r ≠ []) : ∃ a b f, Lib.cut r [10] = (a, b, f) ∧ lns [] r = a :: lns [] b ∧ b.length < r.length := by
  have h1 := Lib.index_one r 10
  have h2 := Lib.indexByte_ge r 10
  by_cases h3 : Lib.indexByte r 10 = -1
  · refine ⟨r, [], false, ?_, ?_, ?_⟩
    · unfold Lib.cut
      rw [h1, h3, if_neg (by omega)]
    · have h4 := Lib.indexByte_none h3
      rw [lns_none r [] fun c hc e => ?_, lns_nil]
      · simp [h]
      · subst e
        obtain ⟨k, hk⟩ := List.getElem?_of_mem hc
        exact h4 k hk
    · exact List.length_pos_iff.2 h
  · obtain ⟨i, hi⟩ : ∃ i : Nat, Lib.indexByte r 10 = i := ⟨(Lib.indexByte r 10).toNat, by omega⟩
    obtain ⟨h5, h6⟩ := Lib.indexByte_some hi
    have hl : i < r.length := (List.getElem?_eq_some_iff.1 h5).1
    have e10 : r[i] = 10 := by rw [List.getElem?_eq_getElem hl] at h5; exact Option.some.inj h5
    refine ⟨r.take i, r.drop (i + 1), true, ?_, ?_, ?_⟩
    · unfold Lib.cut
      rw [h1, hi, if_pos (by omega)]
      rfl
    · have hr : r = r.take i ++ 10 :: r.drop (i + 1) := by
        rw [← e10, ← List.drop_eq_getElem_cons hl, List.take_append_drop]
      have := lns_hit (r.take i) [] (r.drop (i + 1)) fun c hc e => by
        subst e
        obtain ⟨k, hk⟩ := List.getElem?_of_mem hc
        rw [List.getElem?_take] at hk
        split at hk
        · exact h6 k (by assumption) hk
        · cases hk
      rw [← hr] at this
      exact this
    · rw [List.length_drop]; omega
/-- Where the library's MaxLen lies. -/
abbrev gMax : Nat := Tryd.lays145_ren.g 1
theorem scut_any (r : List UInt8) (hr : r.length ≤ 100000) (m : Int) (w : World) (hm : w.cell? ⟨gMax, 0, none⟩ = some (.int .i64 m)) (a b : List UInt8) (f : Bool) (hc : Lib.cut r [10] = (a, b, f)) :
    Calls Tryd.prog 41 #[.string ⟨r.toArray⟩, .string ⟨#[10]⟩] w fun e w' => e = .returned (.tuple #[.string ⟨a.toArray⟩, .string ⟨b.toArray⟩, .bool f]) ∧ Below w.heap.size w w' := by
  have h := Tryd.strings_Cut ⟨r.toArray⟩ ⟨#[10]⟩ m w (by rw [ba_size]; omega) hm
  rw [show (⟨r.toArray⟩ : ByteArray).data.toList = r from rfl, show (⟨#[10]⟩ : ByteArray).data.toList = [10] from rfl, hc] at h
  refine h.mono ?_
  rintro e w' ⟨rfl, n, rfl⟩
  exact ⟨rfl, ⟨rfl, rfl, rfl, Nat.le_refl _, fun _ _ => rfl⟩⟩
theorem kpF_cell {K : Nat → Prop} {A B : World} {g : Nat} {v : Value} (h : KpF (fun _ k => K k) A B) (hc : A.cell? ⟨g, 0, none⟩ = some v) (hK : K g) : B.cell? ⟨g, 0, none⟩ = some v := by
  have hl := blk_of_cell hc
  simp only at hl
  have e := (h.2 g _ (Array.getElem?_eq_getElem hl) hK).1
  rw [World.cell?_of_block (e.trans (Array.getElem?_eq_getElem hl).symm)]
  exact hc
abbrev encL (x : List UInt8) : Array Value := #[.string ⟨x.toArray⟩]
set_option maxRecDepth 100000 in
set_option maxHeartbeats 8000000 in
theorem lines1_x (nd : Nat) (hn : 1 ≤ nd) (l : List UInt8) (hl : l.length ≤ 100000) (Bs : Nat) (K : Nat → Prop) (w : World) (hBs : w.heap[Bs]? = some (.cells #[.string ⟨l.toArray⟩] 9 (0, 0))) (m : Int) (hm : w.cell? ⟨gMax, 0, none⟩ = some (.int .i64 m)) (hK : K gMax) :
    SeqX Fence.wide nd Tryd.prog 58 #[.pointer (some ⟨Bs, 0, none⟩)] encL (fun _ => True) (KpF fun _ k => K k) (lns [] l) w := fun ll J Jx W hW hJ hJx hJI hY h0 => by
  have bW := (hW.block Bs (Array.getElem?_eq_some_iff.1 hBs).1).trans hBs
  have hmb := blk_of_cell hm
  have mW := ((bcell hW).1 gMax 0 hmb).trans hm
  have hJb : ∀ pre A B, J pre A → Below A.heap.size A B → J pre B := fun pre A B h hb => hJ pre A B none h (below_none hb) (fun r e => by cases e)
  clear hBs hJ hm
  refine callsIn_of_wp Tryd.func58 rfl trivial (wpIn_wide.2 ?_) rfl
  simp only [Tryd.ntmps58, List.size_toArray, List.length_cons, List.length_nil, Nat.reduceAdd, Nat.reduceSub, Array.replicate_succ, Array.replicate_zero, List.push_toArray, List.append_toArray, List.nil_append, List.cons_append]
  have x0 := bk_cell bW (i := 0) (v := .string ⟨l.toArray⟩) rfl
  have KC := Lib.hid (fun r hr w hm a b f hc => scut_any r hr m w hm a b f hc)
  have HY := Lib.hid hY
  have HJB := Lib.hid hJb
  have H0 := Lib.hid h0
  have MW := Lib.hid mW
  have lM := Nat.lt_of_lt_of_le hmb hW.size
  simp only at lM
  have LM := Lib.hid lM
  clear hY hJb h0 mW bW hW hmb lM hJI
  go_wp2_with fail
  go_loopw [3] (fun p wr => ∃ (pre : List (List UInt8)) (r : List UInt8), p = .string ⟨r.toArray⟩ ∧ lns [] l = pre ++ lns [] r ∧ r.length ≤ l.length ∧ J pre wr ∧ wr.cell? ⟨gMax, 0, none⟩ = some (.int .i64 m))
    (fun p _ => match p with | .string b => b.size | _ => 0)
  case atStart => exact ⟨[], l, rfl, rfl, Nat.le_refl _, H0.out, MW.out⟩
  case round =>
    obtain ⟨pre, r, rfl, hx, hr, hJs, hmr⟩ := hrel
    clear x0
    by_cases hre : r = []
    · subst hre
      have HF := Lib.hid (show J (lns [] l) wr by rw [hx, lns_nil, if_pos rfl, List.append_nil]; exact hJs)
      clear hx hJs hr hmr
      go_wp2_with fail
      refine bodyPost_end (results_none rfl _ _ _) rfl ?_
      exact ⟨⟨_, rfl⟩, .inl HF.out⟩
    · obtain ⟨a, b, f, hc, hl2, hbl⟩ := cut_lns r hre
      have KC1 := KC.out r (by omega) wr hmr a b f hc
      have hne := txt_ne r hre
      have hzr := ba_size r
      obtain ⟨R, eR⟩ : ∃ R : ByteArray, (⟨r.toArray⟩ : ByteArray) = R := ⟨_, rfl⟩
      obtain ⟨Sb, eB⟩ : ∃ R : ByteArray, (⟨b.toArray⟩ : ByteArray) = R := ⟨_, rfl⟩
      obtain ⟨Sa, eA⟩ : ∃ R : ByteArray, (⟨a.toArray⟩ : ByteArray) = R := ⟨_, rfl⟩
      rw [eR] at KC1 hne hzr ⊢
      rw [eA, eB] at KC1
      have HMEA := Lib.hid (show Sb.size < R.size by rw [hzr, ← eB, ba_size]; exact hbl)
      have KC1 := Lib.hid KC1
      have hx2 : lns [] l = (pre ++ [a]) ++ lns [] b := by rw [hx, hl2]; simp
      have hpre : pre ++ [a] <+: lns [] l := by rw [hx2]; exact List.prefix_append _ _
      have HX := Lib.hid hx2
      have HPRE := Lib.hid hpre
      have HJS := Lib.hid hJs
      have hrl : b.length ≤ l.length := by omega
      have HRL := Lib.hid hrl
      have HMR := Lib.hid hmr
      have EA := Lib.hid eA
      have EB := Lib.hid eB
      clear hx hx2 hpre hJs hr hrl hmr hc hl2 hbl eR eA eB hzr
      go_wp2_with fail
      refine KC1.out.mono ?_
      rintro e V ⟨rfl, hb⟩
      have HJ3 := Lib.hid (HJB.out pre wr V HJS.out hb)
      have HM3 := Lib.hid (((bcell hb).1 gMax 0 (blk_of_cell HMR.out)).trans HMR.out)
      clear hb
      go_upto_region 3 with fail
      refine (wpIn_wide (n := nd)).1 ?_
      obtain ⟨fn, tmps, assign, body, hy, hR⟩ := HY.out pre a V HJ3.out HPRE.out
      dsimp only [encL] at hy
      rw [EA.out] at hy
      gi_wp2
      refine hR.mono ?_
      rintro e W3 (⟨rfl, hJ4, hk4⟩ | ⟨rfl, hJx4, -⟩)
      · have HM4 := Lib.hid ((kpF_cell hk4 HM3.out hK))
        have HJ4 := Lib.hid hJ4
        clear hJ4 hk4 hR hy
        gi_wp2
        go_wp2_with fail
        go_roundw
        case rel => exact ⟨pre ++ [a], b, congrArg Value.string EB.out.symm, HX.out, HRL.out, HJ4.out, HM4.out⟩
        case measure => exact HMEA.out
      · gi_wp2
        go_wp2_with fail
        refine bodyPost_ret (results_none rfl _ _ _) rfl ?_
        exact ⟨⟨_, rfl⟩, .inr ⟨pre, _, HPRE.out, hJx4⟩⟩
theorem lines_any (s : ByteArray) (w : World) : Calls Tryd.prog 29 #[.string s] w fun e w' => e = .returned (.func (.func 58) #[] #[.pointer (some ⟨w.heap.size, 0, none⟩)]) ∧ w' = w.alloc (.cells #[.string s] 9) := by
  go_enter Tryd.func29, Tryd.ntmps29
  go_wp2_with fail
  go_ret
  exact ⟨rfl, rfl⟩
end Go.Proofs.YtdnkpclpcelbaaaDoor
