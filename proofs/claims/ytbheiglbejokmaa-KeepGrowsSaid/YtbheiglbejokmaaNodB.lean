/- The reference's Get (layer 7), over a node that came in. -/
import Derived.Test.YtbheiglbejokmaaNodA
import Derived.Test.YtbheiglbejokmaaRoc
import Derived.Test.YtbheiglbejokmaaNrm
import Derived.Deep.DeepCutAuto
namespace Go.Proofs.Ytbheiglbejokmaa
set_option maxRecDepth 20000
set_option linter.unusedSimpArgs false
set_option linter.unusedVariables false
open Go.RowKit Go.Sort
attribute [local go_sem] Oper.semAt_some
def zeroNd : Nd := .mk 0 0 ByteArray.empty [] []
def zeroC : List Value := [.int .i64 0, .int .i64 0, .string ByteArray.empty, .slice none 0 0, .slice none 0 0]
theorem isNd_zero (w : World) : IsNd w zeroC zeroNd := by
  have r1 : IsStrs w none 0 [] := ⟨rfl, Nat.zero_le _, by simp, ⟨fun h => absurd h (by omega)⟩⟩
  exact .mk (fun _ => []) (by decide) (by decide) (Nat.zero_le _) r1 rfl (Nat.zero_le _) ⟨fun h => absurd h (by omega)⟩ (fun i h => absurd h (by simp))
def Nd.get (N : Nd) (key : ByteArray) : Nd := match N.at_ key with | none => zeroNd | some i => N.vals.getD i zeroNd
def Nd.has (N : Nd) (key : ByteArray) : Bool := (N.at_ key).isSome
theorem at_lt {N : Nd} {key : ByteArray} {i : Nat} (h : N.at_ key = some i) : i < N.vals.length := by
  unfold Nd.at_ firstAt at h
  split at h
  · have h1 := List.mem_of_find?_eq_some h
    have h2 := List.mem_range.1 h1
    omega
  · cases h
section
variable {P : Program} {w : World} {ops : Array Oper} {Q : Exit → Act → World → Prop} {o : Oper} {rest : List Oper} {A : Act}
/-- A struct is loaded whose cells are known. -/
theorem load_cs {b off : Nat} {sub : Array Value} (hs : ∀ j v, sub.toList[j]? = some v → w.cell? ⟨b, off + j, none⟩ = some v) {ty : TypeId} (hT : RowTy P ty sub.size) : (loadVar ty ⟨b, off, none⟩).run P w = .ok (.agg sub) w := by
  have hl : (loadCells ⟨b, off, none⟩ sub.toList.length).run P w = .ok sub.toList.toArray w :=
    run_loadCells_list (P := P) w ⟨b, off, none⟩ sub.toList (fun j v hv => by
      have hadd : (⟨b, off, none⟩ : Addr).add j = ⟨b, off + j, none⟩ := by unfold Addr.add; split <;> simp_all
      rw [hadd]
      exact hs j v hv)
  obtain ⟨hk, h3⟩ := hT
  cases hq : P.info? ty with
  | none => simp [hq] at h3
  | some i =>
    have hz : i.size = sub.size := by simpa [hq] using h3
    have hagg : (isAgg ty).run P w = .ok true w := by
      unfold isAgg
      rcases hk with ⟨fs, hu⟩ | ⟨l, e, hu⟩
      · rw [Sem.run_bind, run_underlying hu w]; rfl
      · rw [Sem.run_bind, run_underlying hu w]; rfl
    simp only [Array.length_toList, Array.toArray_toList] at hl
    simp [loadVar, Sem.run_bind, hagg, sizeOf, typeInfo, hq, hz, hl]
theorem run_load_cs {ty : TypeId} {x : Operand} {b off : Nat} {sub : Array Value} (ho : o.op = .load ty x) (hx : A.eval x = .pointer (some ⟨b, off, none⟩)) (hs : ∀ j v, sub.toList[j]? = some v → w.cell? ⟨b, off + j, none⟩ = some v) (hT : RowTy P ty sub.size) :
    (execOp A.eval o).run P w = .ok (.value (.agg sub)) w := by
  unfold execOp
  simp only [ho, hx, Instr.loadAt, Instr.sureAddr, Sem.run_bind, Sem.run_pure, Result.andThen_ok, load_cs hs hT]
theorem wl_val {v : Value} (h : (execOp A.eval o).run P w = .ok (.value v) w) (hgd : Region.wanted o (yielded ops A.tmps) = true) (hr : wpList P ops Q rest (A.put o.dst v) w) : wpList P ops Q (o :: rest) A w := by
  refine wpList_step fun K hK => ?_
  rw [if_pos hgd]
  unfold Oper.wp
  rw [h]
  exact hK _ _ hr
/-- An element of a row that came in: its cells. -/
theorem RowAt.cells {len size : Nat} {f : Nat → List Value} {b off : Nat} (h : RowAt w (some ⟨b, off, none⟩) len size f) {i : Nat} (hi : i < len) : ∀ j v, (f i).toArray.toList[j]? = some v → w.cell? ⟨b, off + i * size + j, none⟩ = some v := by
  obtain ⟨b', off', e, hlt, hc⟩ := h.at_ (by omega)
  cases e
  intro j v hv
  have hl := (hc i hi).1
  have hj : j < size := by
    have := (List.getElem?_eq_some_iff.1 hv).1
    simpa [hl] using this
  rw [Nat.add_assoc, (hc i hi).2 j hj]
  simpa using hv
theorem results_ct {fn : Func} {tmps : Array Value} {v1 u : Value} {a1 t1 b1 s : Nat} (h : fn.results = #[.cell a1 t1, .tmp s]) (h1 : tmps.getD a1 undef = .pointer (some ⟨b1, 0, none⟩)) (h2 : tmps.getD s undef = u)
    (l1 : (loadVar t1 ⟨b1, 0, none⟩).run P w = .ok v1 w) : (results fn tmps).run P w = .ok (.tuple #[v1, u]) w := by
  have g1 : tmps[a1]?.getD undef = .pointer (some ⟨b1, 0, none⟩) := by simpa using h1
  have g2 : tmps[s]?.getD undef = u := by simpa using h2
  simp [results, h, g1, g2, asAddr, l1]
end
theorem rowNd : RowTy Try.prog 25 5 := ⟨.inl ⟨_, Try.underlying25⟩, by kernel_rfl⟩
theorem cellKs : CellTy Try.prog 23 := ⟨⟨_, Try.underlying23, rfl⟩, by kernel_rfl⟩
theorem bd_Nd (W : World) : (Instr.build 25 #[]).run Try.prog W = .ok (.agg zeroC.toArray) W := by kernel_rfl
theorem fl_L (b : Nat) (W : World) : (Instr.fieldAt 25 (.pointer (some ⟨b, 0, none⟩)) 4).run Try.prog W = .ok (.pointer (some ⟨b, 4, none⟩)) W := by kernel_rfl
theorem ix_L (b off len cap i : Nat) (hi : i < len) (W : World) : (Instr.indexAt 23 (.slice (some ⟨b, off, none⟩) len cap) (.int .i64 (i : Int))).run Try.prog W = .ok (.pointer (some ⟨b, off + i * 5, none⟩)) W := by
  have h1 : (0 : Int) ≤ (i : Int) := by omega
  have h2 : (i : Int) < (len : Int) := by omega
  have e : (⟨b, off, none⟩ : Addr).add (i * 5) = ⟨b, off + i * 5, none⟩ := by unfold Addr.add; split <;> simp_all
  go_simp
theorem one_zeroC : zeroC.toArray.all (·.oneCell') = true := by kernel_rfl
theorem isNd_len {w : World} {cs : List Value} {N : Nd} (h : IsNd w cs N) : cs.toArray.size = 5 := by cases h; rfl
theorem isNd_one {w : World} {cs : List Value} {N : Nd} (h : IsNd w cs N) : cs.toArray.all (·.oneCell') = true := by cases h; simp [Value.oneCell']
set_option maxRecDepth 100000 in
set_option maxHeartbeats 2000000 in
theorem rget_from (w0 w : World) (cs : List Value) (N : Nd) (h : IsNd w0 cs N) (hb0 : Below w0.heap.size w0 w) (key : ByteArray) :
    Calls Try.prog 44 #[.agg cs.toArray, .string key] w fun e w' => ∃ cs', IsNd w0 cs' (N.get key) ∧ e = .returned (.tuple #[.agg cs'.toArray, .bool (N.has key)]) ∧ Below w.heap.size w w' := by
  have K := Lib.hid (fun W hW => rat_any W cs N hW key)
  have H := Lib.hid h
  have hlt := Lib.hid (fun i => at_lt (N := N) (key := key) (i := i))
  obtain ⟨v, ev⟩ : ∃ v, v = atI (N.at_ key) := ⟨_, rfl⟩
  rw [← ev] at K
  cases h with
  | @mk kind n s ks ls ak lk ck al ll cl kid hkind hn hs hk hl hlm hrow hkids =>
    obtain ⟨M, eM⟩ : ∃ M, M = Nd.mk kind n s ks ls := ⟨_, rfl⟩
    have eL : M.vals = ls := by rw [eM]; rfl
    rw [← eM] at K H hlt ev ⊢
    have EV := Lib.hid ev
    have EL := Lib.hid eL
    have EM := Lib.hid eM
    clear ev eL eM
    have HK := Lib.hid hkids
    have HR := Lib.hid hrow
    clear hkids hrow hk hkind hn hs
    go_enter Try.func44, Try.ntmps44
    go_wp2_with fail
    have hM0 := ((Mem.start w).new1 (.cells #[.int .i64 kind, .int .i64 n, .string s, .slice ak lk ck, .slice al ll cl] 25 (0, 0))).new1 (.cells zeroC.toArray 25 (0, 0))
    refine (K.out _ (H.out.keep (hb0.trans (hM0.below.mono hb0.size)))).mono ?_
    rintro e w1 ⟨rfl, hb1⟩
    have hM1 := hM0.calls hb1
    rw [World.size_alloc] at hM1
    have hB := hM1.get 0 rfl
    have hA := hM1.get 1 rfl
    have HM := Lib.hid hM1
    clear hM0 hM1 hb1 K
    cases hat : M.at_ key with
    | none =>
      have ev := EV.out
      rw [hat] at ev
      subst ev
      have e1 : atI none = -1 := rfl
      rw [e1]
      have HHA := Lib.hid hat
      clear hat EV
      go_upto_region 3 with fail
      refine wp_region_lit ?_
      refine wl_pure (v := .agg zeroC.toArray) (fun W => run_build_of (ps := #[]) rfl (by simp) (bd_Nd W)) rfl ?_
      simp only [nm0, nm1, nm2, nm3]
      refine wl_set HM.out 0 (cs := zeroC.toArray) rfl rfl rfl rfl rowNd rfl one_zeroC rfl rfl fun W2 hM2 => ?_
      simp only [nm2, nm3] at hM2
      refine wl_pure (v := .bool false) (fun W => rfl) rfl ?_
      simp only [nm0, nm1, nm2, nm3]
      refine wpList_nil ?_
      have hz : M.get key = zeroNd ∧ M.has key = false := by
        unfold Nd.get Nd.has
        rw [HHA.out]
        exact ⟨rfl, rfl⟩
      have HZ := Lib.hid hz
      clear hz
      go_wp2_with fail
      refine bodyPost_ret (results_ct rfl rfl rfl (hM2.load 0 rfl rowNd)) rfl ?_
      rw [HZ.out.1, HZ.out.2]
      exact ⟨zeroC, isNd_zero _, rfl, hM2.below⟩
    | some i =>
      have ev := EV.out
      rw [hat] at ev
      subst ev
      have e1 : atI (some i) = (i : Int) := rfl
      rw [e1]
      have p1 : ¬ (i : Int) < 0 := by omega
      have HHA := Lib.hid hat
      clear hat EV
      have hi : i < ls.length := by
        rw [← EL.out]
        exact hlt.out i HHA.out
      have hi2 : i < ll := by rw [← hl]; exact hi
      have hN := HK.out i hi
      obtain ⟨b, off, rfl, hbl, _⟩ := HR.out.at_ (by omega)
      have hc := (HR.out.below (hb0.trans (HM.out.below.mono hb0.size))).cells hi2
      obtain ⟨cs', ecs⟩ : ∃ c, c = kid i := ⟨_, rfl⟩
      rw [← ecs] at hN hc
      have HC := Lib.hid hc
      have HN := Lib.hid hN
      clear hc hN ecs
      have hz : M.get key = ls[i] ∧ M.has key = true := by
        unfold Nd.get Nd.has
        rw [HHA.out, EL.out]
        refine ⟨?_, rfl⟩
        show ls.getD i zeroNd = ls[i]
        rw [List.getD_eq_getElem?_getD, List.getElem?_eq_getElem hi]
        rfl
      have HZ := Lib.hid hz
      clear hz
      go_upto_region 4 with fail
      refine wp_region_lit ?_
      refine wl_pure (v := .pointer (some ⟨w.heap.size, 4, none⟩)) (fun W => run_field_of rfl rfl (fl_L _ W)) rfl ?_
      simp only [nm0, nm1, nm2, nm3]
      refine wl_cell HM.out 1 (v := .slice (some ⟨b, off, none⟩) ll cl) rfl rfl rfl rfl cellKs rfl ?_
      simp only [nm0, nm1, nm2, nm3]
      refine wl_pure (v := .int .i64 (i : Int)) (fun W => rfl) rfl ?_
      simp only [nm0, nm1, nm2, nm3]
      refine wl_pure (v := .pointer (some ⟨b, off + i * 5, none⟩)) (fun W => run_index_of rfl rfl rfl (ix_L b off ll cl i hi2 W)) rfl ?_
      simp only [nm0, nm1, nm2, nm3]
      refine wl_val (v := .agg cs'.toArray) (run_load_cs rfl rfl HC.out (by rw [isNd_len HN.out]; exact rowNd)) rfl ?_
      simp only [nm0, nm1, nm2, nm3]
      refine wl_set HM.out 0 (cs := cs'.toArray) rfl rfl rfl rfl (by rw [isNd_len HN.out]; exact rowNd) (by rw [isNd_len HN.out]; rfl) (isNd_one HN.out) rfl rfl fun W2 hM2 => ?_
      simp only [nm2, nm3] at hM2
      refine wl_pure (v := .bool true) (fun W => rfl) rfl ?_
      simp only [nm0, nm1, nm2, nm3]
      refine wpList_nil ?_
      go_wp2_with fail
      refine bodyPost_ret (results_ct rfl rfl rfl (hM2.load 0 rfl (by rw [isNd_len HN.out]; exact rowNd))) rfl ?_
      rw [HZ.out.1, HZ.out.2]
      exact ⟨cs', HN.out, rfl, hM2.below⟩
theorem rget_any (w : World) (cs : List Value) (N : Nd) (h : IsNd w cs N) (key : ByteArray) :
    Calls Try.prog 44 #[.agg cs.toArray, .string key] w fun e w' => ∃ cs', IsNd w cs' (N.get key) ∧ e = .returned (.tuple #[.agg cs'.toArray, .bool (N.has key)]) ∧ Below w.heap.size w w' :=
  rget_from w w cs N h (Below.refl _ _) key
