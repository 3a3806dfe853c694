/- host (layer 27): the reference's cut. -/
import Derived.Test.YtdnkpclpcelbaaaDoorHosF
import Derived.Test.YtdnkpclpcelbaaaDoorApp
namespace Go.Proofs.YtdnkpclpcelbaaaDoor
set_option maxRecDepth 20000
set_option linter.unusedSimpArgs false
set_option linter.unusedVariables false
open Go.RowKit Go.Lib Go.Shelf
attribute [local go_sem] Oper.semAt_some
abbrev StT : TypeId := 9
theorem bs_Str (X : ByteArray) (W : World) : (Instr.buildSlice 46 1 #[(0, .string X)]).run Tryd.prog W = .ok (.slice (some ⟨W.heap.size, 0, none⟩) 1 1) (W.alloc (.cells #[.string X] StT (0, 0))) := by go_simp
theorem info_Str : (Tryd.prog.info? StT).map (fun i => (i.zero, i.size, i.bytes)) = some (some (.string ByteArray.empty), 1, 16) := by kernel_rfl
abbrev stV (l : List ByteArray) : List Value := l.map Value.string
/-- One text more on a row of the call's own: the slice it was given, and the text. -/
theorem app_str {w0 w : World} {v : Value} {l : List ByteArray} (X : ByteArray) (hown : w.ownsRow w0.heap.size StT 1 v l.length (stV l)) (hbw : Below w0.heap.size w0 w) (hl : l.length ≤ 100000) :
    ∃ v' W2, (Builtin.append_ #[46, 46] 46 #[v, .slice (some ⟨w.heap.size, 0, none⟩) 1 1]).run Tryd.prog (w.alloc (.cells #[.string X] StT (0, 0))) = .ok v' W2 ∧ W2.ownsRow w0.heap.size StT 1 v' (l ++ [X]).length (stV (l ++ [X])) ∧ Below w0.heap.size w0 W2 := by
  have hz1 : (w.alloc (.cells #[.string X] StT (0, 0))).heap.size = w.heap.size + 1 := by simp
  have hb1 : Below w.heap.size w (w.alloc (.cells #[.string X] StT (0, 0))) := (Below.refl _ w).alloc (Nat.le_refl _) _
  have hnew : (w.alloc (.cells #[.string X] StT (0, 0))).heap[w.heap.size]? = some (.cells #[.string X] StT (0, 0)) := World.alloc_heap_new w _
  have h41 := owns_below hown hb1 (Nat.le_refl _)
  obtain ⟨i0, hi, hz0, hz2, hz3⟩ := info_partsT info_Str
  have hrun := run_append_own_at (P := Tryd.prog) (w.alloc (.cells #[.string X] StT (0, 0))) w0.heap.size 46 46 StT i0 _ 1 16 Tryd.underlying46 hi hz0 hz2 hz3 rfl (by decide) v l.length _ h41 ⟨w.heap.size, 0, none⟩ 1 1 [.string X] rfl
    (fun j u hu => news_at hnew j u hu) (by simp [Value.oneCell']) (by unfold maxLen; omega) (by omega) (by have := hbw.size; omega)
  obtain ⟨v', W2, hrun, h5, h6, -, h7⟩ := hrun
  have hrow : ∀ g, v.ownBlock = some g → w0.heap.size ≤ g ∧ g < w.heap.size := fun g hv => ⟨(owns_lt hown hv).1, (owns_lt hown hv).2.1⟩
  have hb0 := hbw.trans (hb1.mono hbw.size)
  refine ⟨v', W2, hrun, ?_, ⟨h6.os.trans hb0.os, h6.tape.trans hb0.tape, h6.output.trans hb0.output, Nat.le_trans hb0.size h6.size, fun k hk => (h6.block k (Nat.lt_of_lt_of_le hk hb0.size) (fun e => by have := (hrow k e.symm).1; omega)).trans (hb0.block k hk)⟩⟩
  rw [List.length_append, stV, List.map_append]
  exact h5
set_option maxHeartbeats 8000000 in
theorem cut_any (s : ByteArray) (c : Nat) (hc : c < 256) (w : World) (hs : s.size ≤ 1000) :
    Calls Tryd.prog 68 #[.string s, .int .u8 (c : Int)] w fun e w' => ∃ v, e = .returned v ∧ w'.ownsRow w.heap.size StT 1 v (parts s c 0 0).length (stV (parts s c 0 0)) ∧ Below w.heap.size w w' := by
  go_enter Tryd.func68, Tryd.ntmps68
  go_wp2_with fail
  go_loopw [5, 6, 7] (fun v f p wr => ∃ (pre : List ByteArray) (a k : Nat), f = .int .i64 (a : Int) ∧ p = .int .i64 (k : Int) ∧ a ≤ k ∧ k ≤ s.size ∧ parts s c 0 0 = pre ++ parts s c a k ∧ wr.ownsRow w.heap.size StT 1 v pre.length (stV pre) ∧ Below w.heap.size w wr)
    (fun _ _ p _ => s.size - (Go.RowKit.intOf p).toNat)
  case atStart => exact ⟨[], 0, 0, rfl, rfl, Nat.le_refl _, Nat.zero_le _, rfl, World.ownsRow_nil _ _ _ _, Below.refl _ _⟩
  case round =>
    obtain ⟨pre, a, k, rfl, rfl, hak, hk, hx, hown, hbw⟩ := hrel
    obtain ⟨v, hv⟩ : ∃ v, u5 = v := ⟨_, rfl⟩
    rw [hv] at hown ⊢
    clear hv
    have hlen : pre.length ≤ 100000 := by
      have := parts_len s c _ 0 0 rfl
      rw [hx, List.length_append] at this
      omega
    by_cases hlt : k < s.size
    · have p1 : (k : Int) < (s.size : Int) := by omega
      have natk : (k : Int).toNat = k := by omega
      obtain ⟨d, hd⟩ : ∃ d, gb s k = d := ⟨_, rfl⟩
      have gk := (gb_at s k hlt).trans hd
      have w1 : IntKind.i64.wrap ((k : Int) + 1) = (k : Int) + 1 := IntWalk.i64_in _ (by omega)
      by_cases hdc : d = c
      · have HX := Lib.hid (show parts s c 0 0 = (pre ++ [s.extract a k]) ++ parts s c (k + 1) (k + 1) by rw [hx, parts_at hlt (hd.trans hdc)]; simp)
        obtain ⟨v', W2, hrun, ho, hb2⟩ := app_str (s.extract a k) hown hbw hlen
        have HO := Lib.hid ho
        have HB := Lib.hid hb2
        have HRUN := Lib.hid hrun
        subst hdc
        clear hx hown hbw ho hb2 hrun
        go_upto_region 7 with fail
        refine wp_region_lit ?_
        refine wl_pure (v := v) (fun W => rfl) rfl ?_
        simp only [nm0, nm1, nm2, nm3]
        refine wl_pure (v := .string s) (fun W => rfl) rfl ?_
        simp only [nm0, nm1, nm2, nm3]
        refine wl_pure (v := .int .i64 (a : Int)) (fun W => rfl) rfl ?_
        simp only [nm0, nm1, nm2, nm3]
        refine wl_pure (v := .int .i64 (k : Int)) (fun W => rfl) rfl ?_
        simp only [nm0, nm1, nm2, nm3]
        refine wl_pure (v := .string (s.extract a k)) (fun W => by refine run_slc_str W rfl rfl ?_; exact slc_str W Tryd.underlying9 hak hk) rfl ?_
        simp only [nm0, nm1, nm2, nm3]
        refine lw_valW (v := .slice (some ⟨wr.heap.size, 0, none⟩) 1 1) (run_slice_of (ps := #[(0, .string (s.extract a k))]) rfl (by simp [Act.eval]) (bs_Str _ wr)) rfl ?_
        simp only [nm0, nm1, nm2, nm3]
        refine lw_valW (v := v') (run_app_of rfl rfl rfl HRUN.out) rfl ?_
        simp only [nm0, nm1, nm2, nm3]
        refine wl_pure (v := v') (fun W => rfl) rfl ?_
        simp only [nm0, nm1, nm2, nm3]
        refine wpList_nil ?_
        go_wp2_with fail
        go_round
        case rel => exact ⟨pre ++ [s.extract a k], k + 1, k + 1, congrArg (Value.int .i64) (by omega), congrArg (Value.int .i64) (by omega), Nat.le_refl _, hlt, HX.out, HO.out, HB.out⟩
        case measure => simp [Go.RowKit.intOf]; omega
      · have HX := Lib.hid (show parts s c 0 0 = pre ++ parts s c a (k + 1) by rw [hx, parts_no hlt (by rw [hd]; exact hdc)])
        have HO := Lib.hid hown
        have HB := Lib.hid hbw
        have q1 : ((d : Int) == (c : Int)) = false := by simp; omega
        have q2 : ¬ (d : Int) = (c : Int) := by omega
        clear hx hown hbw
        go_wp2_with fail
        go_round
        case rel => exact ⟨pre, a, k + 1, rfl, congrArg (Value.int .i64) (by omega), by omega, hlt, HX.out, HO.out, HB.out⟩
        case measure => simp [Go.RowKit.intOf]; omega
    · have p1 : ¬ (k : Int) < (s.size : Int) := by omega
      have has : a ≤ s.size := by omega
      have HX := Lib.hid (show parts s c 0 0 = pre ++ [s.extract a s.size] by rw [hx, parts_end (by omega)])
      obtain ⟨v', W2, hrun, ho, hb2⟩ := app_str (s.extract a s.size) hown hbw hlen
      have HO := Lib.hid ho
      have HB := Lib.hid hb2
      have HRUN := Lib.hid hrun
      clear hx hown hbw ho hb2 hrun
      go_upto_region 9 with fail
      refine wp_region_lit ?_
      refine wl_pure (v := v) (fun W => rfl) rfl ?_
      simp only [nm0, nm1, nm2, nm3]
      refine wl_pure (v := .string s) (fun W => rfl) rfl ?_
      simp only [nm0, nm1, nm2, nm3]
      refine wl_pure (v := .int .i64 (a : Int)) (fun W => rfl) rfl ?_
      simp only [nm0, nm1, nm2, nm3]
      refine wl_pure (v := .string (s.extract a s.size)) (fun W => by refine run_slc_str W rfl rfl ?_; exact slc_str_lo W Tryd.underlying9 has) rfl ?_
      simp only [nm0, nm1, nm2, nm3]
      refine lw_valW (v := .slice (some ⟨wr.heap.size, 0, none⟩) 1 1) (run_slice_of (ps := #[(0, .string (s.extract a s.size))]) rfl (by simp [Act.eval]) (bs_Str _ wr)) rfl ?_
      simp only [nm0, nm1, nm2, nm3]
      refine lw_valW (v := v') (run_app_of rfl rfl rfl HRUN.out) rfl ?_
      simp only [nm0, nm1, nm2, nm3]
      refine wl_pure (v := v') (fun W => rfl) rfl ?_
      simp only [nm0, nm1, nm2, nm3]
      refine wpList_nil ?_
      go_wp2_with fail
      go_ret
      rw [HX.out]
      exact ⟨v', rfl, HO.out, HB.out⟩
end Go.Proofs.YtdnkpclpcelbaaaDoor
