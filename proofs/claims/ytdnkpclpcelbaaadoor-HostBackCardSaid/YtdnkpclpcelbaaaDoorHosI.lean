/- host (layer 27): strings.SplitSeq: the iterator. -/
import Derived.Test.YtdnkpclpcelbaaaDoorHosH
import Derived.Test.YtdnkpclpcelbaaaDoorRepC
import Derived.Test.YtdnkpclpcelbaaaDoorRny
import Derived.Test.YtdnkpclpcelbaaaDoorRnz
import Derived.Test.YtdnkpclpcelbaaaDoorShelf
import Derived.Shelf.Abstract
import Derived.Shelf.RegionOpen
import Derived.RangeFuncBound
import Derived.RangeFuncCalls
import Derived.RangeFuncLeaves
import Derived.OwnWalkIn
import Derived.TacticsInMore
import Derived.LoopNIn
import Derived.LoopIn
namespace Go.Proofs.YtdnkpclpcelbaaaDoor
set_option maxRecDepth 20000
set_option linter.unusedSimpArgs false
set_option linter.unusedVariables false
open Go.RowKit Go.Lib Go.Shelf Go.Sort
attribute [local go_sem] Oper.semAt_some
theorem hbelow_none {w w' : World} (h : Below w.heap.size w w') : w.grownBy w' none := ⟨h.os, h.tape, h.output, h.size, fun k hk _ => h.block k hk⟩
theorem hbk_cell {w : World} {p i : Nat} {cs : Array Value} {T : TypeId} {v : Value} (h : w.heap[p]? = some (.cells cs T (0, 0))) (hv : cs[i]? = some v) : w.cell? ⟨p, i, none⟩ = some v := by rw [Lib.cell_of_heap h]; exact hv
theorem cellHS : CellTy Tryd.prog 9 := ⟨⟨_, Tryd.underlying9, rfl⟩, by kernel_rfl⟩
theorem cellHI : CellTy Tryd.prog 3 := ⟨⟨_, Tryd.underlying3, rfl⟩, by kernel_rfl⟩
abbrev encP (x : List UInt8) : Array Value := #[.string ⟨x.toArray⟩]
abbrev sBox (r : List UInt8) : Obj := .cells #[.string ⟨r.toArray⟩] 9 (0, 0)
theorem ext_take (r : List UInt8) (i : Nat) : (⟨r.toArray⟩ : ByteArray).extract 0 i = ⟨(r.take i).toArray⟩ := by
  rw [Lib.extract_eq]
  simp
theorem ext_drop (r : List UInt8) (i : Nat) : (⟨r.toArray⟩ : ByteArray).extract i (⟨r.toArray⟩ : ByteArray).size = ⟨(r.drop i).toArray⟩ := by
  rw [Lib.extract_eq, ba_size]
  rw [show (⟨r.toArray⟩ : ByteArray).data.toList = r from rfl, List.take_of_length_le (by simp)]
theorem prt_at {c : UInt8} {r : List UInt8} {i : Nat} (h : r = r.take i ++ c :: r.drop (i + 1)) (hn : ∀ x ∈ r.take i, x ≠ c) : prt c [] r = r.take i :: prt c [] (r.drop (i + 1)) := by
  have := prt_hit (r.take i) [] (r.drop (i + 1)) hn
  rw [← h] at this
  exact this
set_option maxRecDepth 100000 in
set_option maxHeartbeats 8000000 in
theorem split1_x (nd : Nat) (hn : 1 ≤ nd) (c : UInt8) (l : List UInt8) (hl : l.length ≤ 100000) (Bs Bp Bv : Nat) (K : Nat → Prop) (w : World) (hBs : w.heap[Bs]? = some (sBox l)) (hBp : w.heap[Bp]? = some (sBox [c])) (hBv : w.heap[Bv]? = some (.cells #[.int .i64 0] 3 (0, 0)))
    (hKs : K Bs) (hKp : K Bp) (hKv : K Bv) (n1 : Bp ≠ Bs) (n2 : Bv ≠ Bs) :
    SeqZ Fence.wide nd Tryd.prog 98 #[.pointer (some ⟨Bp, 0, none⟩), .pointer (some ⟨Bs, 0, none⟩), .pointer (some ⟨Bv, 0, none⟩)] encP (fun _ => True) (KpF fun _ k => K k) Bs (prt c [] l) w := fun ll J Jx W hW hJ hJx hJI hJs hY h0 => by
  have bW := (hW.block Bs (Array.getElem?_eq_some_iff.1 hBs).1).trans hBs
  have pW := (hW.block Bp (Array.getElem?_eq_some_iff.1 hBp).1).trans hBp
  have vW := (hW.block Bv (Array.getElem?_eq_some_iff.1 hBv).1).trans hBv
  have hJb : ∀ pre A B, J pre A → Below A.heap.size A B → J pre B := fun pre A B h hb => hJ pre A B none h (hbelow_none hb) (fun r e => by cases e)
  clear hBs hBp hBv hJ
  refine callsIn_of_wp Tryd.func98 rfl trivial (wpIn_wide.2 ?_) rfl
  simp only [Tryd.ntmps98, List.size_toArray, List.length_cons, List.length_nil, Nat.reduceAdd, Nat.reduceSub, Array.replicate_succ, Array.replicate_zero, List.push_toArray, List.append_toArray, List.nil_append, List.cons_append]
  have KC := Lib.hid (fun s w => Tryd.strings_Index_one s c w)
  have HY := Lib.hid hY
  have HJB := Lib.hid hJb
  have HJS := Lib.hid hJs
  have H0 := Lib.hid h0
  have BW := Lib.hid bW
  have PW := Lib.hid pW
  have VW := Lib.hid vW
  have x1 := hbk_cell pW (i := 0) (v := .string ⟨#[c]⟩) rfl
  clear hY hJb hJs h0 bW pW vW hJI
  go_wp2_with fail
  clear x1
  go_loopw [] (fun wr => ∃ (pre : List (List UInt8)) (r : List UInt8), wr.heap[Bs]? = some (sBox r) ∧ wr.heap[Bp]? = some (sBox [c]) ∧ wr.heap[Bv]? = some (.cells #[.int .i64 0] 3 (0, 0)) ∧ prt c [] l = pre ++ prt c [] r ∧ r.length ≤ l.length ∧ J pre wr)
    (fun wr => match wr.cell? ⟨Bs, 0, none⟩ with | some (.string b) => b.size | _ => 0)
  case atStart => exact ⟨[], l, BW.out, PW.out, VW.out, rfl, Nat.le_refl _, H0.out⟩
  case round =>
    obtain ⟨pre, r, hb, hp, hv, hx, hr, hJ0⟩ := hrel
    have HMEA0 := Lib.hid (hbk_cell hb (i := 0) (v := .string ⟨r.toArray⟩) rfl)
    go_upto_region 5 with fail
    refine wp_region_lit ?_
    refine lw_valW (v := .string ⟨r.toArray⟩) (run_load_cell rfl rfl hb rfl cellHS) rfl ?_
    simp only [nm0, nm1, nm2, nm3]
    refine lw_valW (v := .string ⟨#[c]⟩) (run_load_cell rfl rfl hp rfl cellHS) rfl ?_
    simp only [nm0, nm1, nm2, nm3]
    obtain ⟨z, hz⟩ : ∃ z, Lib.indexByte r c = z := ⟨_, rfl⟩
    have KC1 := KC.out ⟨r.toArray⟩ wr
    rw [show (⟨r.toArray⟩ : ByteArray).data.toList = r from rfl, hz] at KC1
    refine wl_callE (args := #[.string ⟨r.toArray⟩, .string ⟨#[c]⟩]) (fun W => run_call_fn W (enters_of Tryd.func100 (by kernel_rfl) rfl) rfl (by simp [Act.eval])) KC1 rfl ?_
    rintro e W' ⟨rfl, rfl⟩
    refine ⟨_, rfl, ?_⟩
    simp only [nm0, nm1, nm2, nm3]
    refine wl_pure (v := .int .i64 z) (fun W => rfl) rfl ?_
    simp only [nm0, nm1, nm2, nm3]
    refine wpList_nil ?_
    clear KC1
    rcases idx_one r c with ⟨h1, h2⟩ | ⟨i, h1, h2, h3, h4⟩
    · have hzm : z = -1 := by rw [← hz, ← Lib.index_one]; exact h1
      have hp1 : prt c [] r = [r] := by rw [prt_none r [] h2]; rfl
      have hL : prt c [] l = pre ++ [r] := by rw [hx, hp1]
      have hpre : pre ++ [r] <+: prt c [] l := by rw [hL]; exact List.prefix_refl _
      subst hzm
      clear hz h1 h2 hp1 hx HMEA0
      go_upto_region 10 with fail
      refine (wpIn_wide (n := nd)).1 ?_
      obtain ⟨fn, tmps, assign, body, hy, hR⟩ := HY.out pre r W' hJ0 hpre
      have HL := Lib.hid hL
      have HPRE := Lib.hid hpre
      have y1 := hbk_cell hb (i := 0) (v := .string ⟨r.toArray⟩) rfl
      obtain ⟨R, eR⟩ : ∃ R : ByteArray, (⟨r.toArray⟩ : ByteArray) = R := ⟨_, rfl⟩
      dsimp only [encP] at hy
      rw [eR] at hy y1
      clear hL hpre hb hp hv hr hJ0 eR
      gi_wp2
      refine hR.mono ?_
      rintro e W3 (⟨rfl, hJ4, -⟩ | ⟨rfl, hJx4, -⟩)
      · gi_wp2
        go_wp2_with fail
        refine bodyPost_end (results_none rfl _ _ _) rfl ?_
        exact ⟨⟨_, rfl⟩, .inl (by rw [HL.out]; exact hJ4)⟩
      · gi_wp2
        go_wp2_with fail
        refine bodyPost_end (results_none rfl _ _ _) rfl ?_
        exact ⟨⟨_, rfl⟩, .inr ⟨pre, _, HPRE.out, hJx4⟩⟩
    · have hzi : z = (i : Int) := by rw [← hz, ← Lib.index_one]; exact h1
      have hp1 := prt_at h3 h4
      have hx2 : prt c [] l = (pre ++ [r.take i]) ++ prt c [] (r.drop (i + 1)) := by rw [hx, hp1]; simp
      have hpre : pre ++ [r.take i] <+: prt c [] l := by rw [hx2]; exact List.prefix_append _ _
      subst hzi
      have HX := Lib.hid hx2
      have HPRE := Lib.hid hpre
      have q1 : ¬ (i : Int) < 0 := by omega
      have hrl : (r.drop (i + 1)).length ≤ l.length := by rw [List.length_drop]; omega
      have HMEA := Lib.hid (show (r.drop (i + 1)).length < r.length by rw [List.length_drop]; omega)
      clear hz h1 h3 h4 hp1 hx hx2
      go_upto_region 7 with fail
      refine wp_region_lit ?_
      refine lw_valW (v := .string ⟨r.toArray⟩) (run_load_cell rfl rfl hb rfl cellHS) rfl ?_
      simp only [nm0, nm1, nm2, nm3]
      refine wl_pure (v := .int .i64 (i : Int)) (fun W => rfl) rfl ?_
      simp only [nm0, nm1, nm2, nm3]
      refine lw_valW (v := .int .i64 0) (run_load_cell rfl rfl hv rfl cellHI) rfl ?_
      simp only [nm0, nm1, nm2, nm3]
      have w1 : IntKind.i64.wrap (i : Int) = (i : Int) := IntWalk.i64_in _ (by omega)
      refine wl_pure (v := .int .i64 (i : Int)) (fun W => run_bin_of rfl rfl rfl (by go_simp)) rfl ?_
      simp only [nm0, nm1, nm2, nm3]
      refine wl_pure (v := .string ⟨(r.take i).toArray⟩) (fun W => by rw [← ext_take]; refine run_slc_str W rfl rfl ?_; exact slc_str_hi W Tryd.underlying9 (by rw [ba_size]; omega)) rfl ?_
      simp only [nm0, nm1, nm2, nm3]
      refine wl_pure (v := .string ⟨(r.take i).toArray⟩) (fun W => rfl) rfl ?_
      simp only [nm0, nm1, nm2, nm3]
      refine wpList_nil ?_
      go_upto_region 8 with fail
      refine (wpIn_wide (n := nd)).1 ?_
      obtain ⟨fn, tmps, assign, body, hy, hR⟩ := HY.out pre (r.take i) W' hJ0 hpre
      dsimp only [encP] at hy
      have HB := Lib.hid hb
      have HP := Lib.hid hp
      have HV := Lib.hid hv
      obtain ⟨T, eT⟩ : ∃ R : ByteArray, (⟨(r.take i).toArray⟩ : ByteArray) = R := ⟨_, rfl⟩
      rw [eT] at hy ⊢
      clear hpre hb hp hv hJ0 w1 eT
      gi_wp2
      refine hR.mono ?_
      rintro e W3 (⟨rfl, hJ4, hk4⟩ | ⟨rfl, hJx4, -⟩)
      · have hb4 := (hk4.2 Bs _ HB.out hKs).1
        have hp4 := (hk4.2 Bp _ HP.out hKp).1
        have hv4 := (hk4.2 Bv _ HV.out hKv).1
        clear hR hy hk4
        gi_wp2
        go_upto_region 9 with fail
        refine wp_region_lit ?_
        refine lw_valW (v := .string ⟨r.toArray⟩) (run_load_cell rfl rfl hb4 rfl cellHS) rfl ?_
        simp only [nm0, nm1, nm2, nm3]
        refine wl_pure (v := .int .i64 (i : Int)) (fun W => rfl) rfl ?_
        simp only [nm0, nm1, nm2, nm3]
        refine lw_valW (v := .string ⟨#[c]⟩) (run_load_cell rfl rfl hp4 rfl cellHS) rfl ?_
        simp only [nm0, nm1, nm2, nm3]
        have w1 : IntKind.i64.wrap ((i : Int) + 1) = (i : Int) + 1 := IntWalk.i64_in _ (by omega)
        refine wl_pure (v := .int .i64 1) (fun W => by go_simp) rfl ?_
        simp only [nm0, nm1, nm2, nm3]
        refine wl_pure (v := .int .i64 ((i + 1 : Nat) : Int)) (fun W => run_bin_of rfl rfl rfl (by go_simp)) rfl ?_
        simp only [nm0, nm1, nm2, nm3]
        refine wl_pure (v := .string ⟨(r.drop (i + 1)).toArray⟩) (fun W => by rw [← ext_drop]; refine run_slc_str W rfl rfl ?_; exact slc_str_lo W Tryd.underlying9 (by rw [ba_size]; omega)) rfl ?_
        simp only [nm0, nm1, nm2, nm3]
        refine lw_skipW (run_store_one (v := .string ⟨(r.drop (i + 1)).toArray⟩) hb4 rfl rfl rfl cellHS rfl) rfl rfl ?_
        refine wpList_nil ?_
        have hb5 : (W3.setRow Bs #[.string ⟨(r.drop (i + 1)).toArray⟩]).heap[Bs]? = some (sBox (r.drop (i + 1))) := by
          exact setRow_heap _ _ _ _ _ _ hb4
        have HB5 := Lib.hid hb5
        have HP5 := Lib.hid (show (W3.setRow Bs #[.string ⟨(r.drop (i + 1)).toArray⟩]).heap[Bp]? = some (sBox [c]) by rw [setRow_other _ _ _ _ n1]; exact hp4)
        have HV5 := Lib.hid (show (W3.setRow Bs #[.string ⟨(r.drop (i + 1)).toArray⟩]).heap[Bv]? = some (.cells #[.int .i64 0] 3 (0, 0)) by rw [setRow_other _ _ _ _ n2]; exact hv4)
        have HJ5 := Lib.hid (HJS.out _ _ (.string ⟨(r.drop (i + 1)).toArray⟩) hJ4)
        have HM5 := Lib.hid (hbk_cell hb5 (i := 0) (v := .string ⟨(r.drop (i + 1)).toArray⟩) rfl)
        obtain ⟨W5, hW5⟩ : ∃ W5, W3.setRow Bs #[.string ⟨(r.drop (i + 1)).toArray⟩] = W5 := ⟨_, rfl⟩
        rw [hW5] at HB5 HP5 HV5 HJ5 HM5 ⊢
        clear hb5 hb4 hp4 hv4 hJ4 hW5
        go_wp2_with fail
        go_round
        case rel => exact ⟨pre ++ [r.take i], r.drop (i + 1), HB5.out, HP5.out, HV5.out, HX.out, hrl, HJ5.out⟩
        case measure =>
          rw [HM5.out, HMEA0.out]
          simp only [ba_size]
          exact HMEA.out
      · gi_wp2
        go_wp2_with fail
        refine bodyPost_ret (results_none rfl _ _ _) rfl ?_
        exact ⟨⟨_, rfl⟩, .inr ⟨pre, _, HPRE.out, hJx4⟩⟩
end Go.Proofs.YtdnkpclpcelbaaaDoor
