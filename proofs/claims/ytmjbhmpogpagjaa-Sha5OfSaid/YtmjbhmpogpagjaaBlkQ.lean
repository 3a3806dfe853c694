/- Buffers of layer 16: New, Len, rest, Rest, Copy: what they answer. -/
import Derived.Test.YtmjbhmpogpagjaaBlkP
import Derived.Laws.CopyOwn
namespace Go.Proofs.Ytmjbhmpogpagjaa
set_option maxRecDepth 20000
set_option linter.unusedSimpArgs false
set_option linter.unusedVariables false
open Go.RowKit
theorem len_any (g size wr : Nat) (q : List UInt8) (w : World) (h : IsBuf w g size q wr) : Calls Try.prog 21 #[.pointer (some ⟨g, 0, none⟩)] w fun e w' => e = .returned (.int .i64 (wr : Int)) ∧ w = w' := by
  obtain ⟨P, h1, h2, h3⟩ := h
  obtain ⟨c2, f2⟩ := arr_get h3 bufL_get.2.2
  clear h3
  go_enter Try.func21, Try.ntmps21
  go_wp2_with fail
  go_ret
  exact ⟨rfl, rfl⟩
theorem len_nil (w : World) : Calls Try.prog 21 #[.pointer none] w fun e w' => e = .returned (.int .i64 0) ∧ w = w' := by
  go_enter Try.func21, Try.ntmps21
  go_wp2_with fail
  go_ret
  exact ⟨rfl, rfl⟩
theorem rest_any (g size wr : Nat) (q : List UInt8) (w : World) (h : IsBuf w g size q wr) (hq : q.length ≤ 256) : Calls Try.prog 35 #[.pointer (some ⟨g, 0, none⟩)] w fun e w' => e = .returned (.slice (some ⟨g, 3, none⟩) q.length q.length) ∧ w.drew = w' := by
  obtain ⟨P, h1, h2, h3⟩ := h
  obtain ⟨c1, f1⟩ := arr_get h3 bufL_get.2.1
  clear h3 f1
  generalize q.length = n at *
  have i1 : (0 : Int) ≤ (n : Int) := by omega
  have i2 : (n : Int) ≤ 256 := by omega
  go_enter Try.func35, Try.ntmps35
  go_wp2_with fail
  go_region
  all_goals
    go_wp2_with fail
    go_ret
    exact ⟨rfl, rfl⟩
theorem rest_conv {w : World} {g size wr : Nat} {q : List UInt8} (h : IsBuf w g size q wr) (hq : q.length ≤ 256) : (convert 51 9 (.slice (some ⟨g, 3, none⟩) q.length q.length)).run Try.prog w = .ok (strV q) w := by
  obtain ⟨P, h1, h2, h3⟩ := h
  refine run_convert_bytes_back (P := Try.prog) w 51 9 5 ⟨g, 3, none⟩ q.length q Try.underlying51 Try.underlying5 Try.underlying9 fun k hk => ?_
  have hadd : (⟨g, 3, none⟩ : Addr).add k = ⟨g, 3 + k, none⟩ := by unfold Addr.add; split <;> simp_all
  have hk2 : k < P.length := by omega
  rw [hadd, (arr_get h3 (bufL_held hk2)).1]
  have e : P[k] = q[k] := by
    have h4 : (P.take q.length)[k]? = q[k]? := by rw [h2]
    rw [List.getElem?_take, if_pos hk, List.getElem?_eq_getElem hk2, List.getElem?_eq_getElem hk] at h4
    simpa using h4
  rw [e]
  rfl
theorem Copy_nil (w : World) : Calls Try.prog 22 #[.pointer none] w fun e w' => e = .returned (.pointer none) ∧ w = w' := by
  go_enter Try.func22, Try.ntmps22
  go_wp2_with fail
  go_ret
  exact ⟨rfl, rfl⟩
theorem Write_nil (s : Value) (w : World) : Calls Try.prog 17 #[.pointer none, s] w fun e w' => e = .returned (.slice none 0 0) ∧ w = w' := by
  go_enter Try.func17, Try.ntmps17
  go_wp2_with fail
  go_ret
  exact ⟨rfl, rfl⟩
theorem bufL_len {size fill wr : Nat} {P : List UInt8} (h : P.length = 256) : (bufL size fill wr P).length = 259 := by
  unfold bufL
  rw [List.length_append, List.length_map, h]
  rfl
theorem bufL_one {size fill wr : Nat} {P : List UInt8} : ∀ v ∈ bufL size fill wr P, v.oneCell' = true := by
  intro v hv
  unfold bufL at hv
  rcases List.mem_append.1 hv with h | h
  · simp at h
    rcases h with rfl | rfl | rfl <;> rfl
  · obtain ⟨b, _, rfl⟩ := List.mem_map.1 h
    rfl
def nought (n : Nat) : List UInt8 := List.replicate n 0
theorem nought_len (n : Nat) : (nought n).length = n := List.length_replicate
def bufZ : Array Value := (bufL 0 0 0 (nought 256)).toArray
theorem bufZ_size : bufZ.size = 259 := by unfold bufZ; rw [List.size_toArray, bufL_len (nought_len 256)]
theorem zero_buf (w : World) : (zeroValue 62).run Try.prog w = .ok (.agg bufZ) w := by
  have h : (Try.prog.info? 62).bind (·.zero) = some (.agg bufZ) := by
    kernel_rfl
  unfold zeroValue typeInfo
  cases hq : Try.prog.info? 62 with
  | none => rw [hq] at h; cases h
  | some i =>
    rw [hq] at h
    have h' : i.zero = some (.agg bufZ) := h
    simp [hq, h']
set_option maxRecDepth 20000 in
theorem Copy_any (g size wr : Nat) (q : List UInt8) (w : World) (h : IsBuf w g size q wr) : Calls Try.prog 22 #[.pointer (some ⟨g, 0, none⟩)] w fun e w' => e = .returned (.pointer (some ⟨w.heap.size, 0, none⟩)) ∧ IsBuf w' w.heap.size size q wr ∧ Below w.heap.size w w' := by
  obtain ⟨P, h1, h2, h3⟩ := h
  have kz := zero_buf
  have hlen := bufL_len (size := size) (fill := q.length) (wr := wr) h1
  have hz : (w.alloc (.cells bufZ 62)).heap[w.heap.size]? = some (.cells bufZ 62 (0, 0)) := alloc_new w _
  have ks := run_storeCells_from (P := Try.prog) w.heap.size 62 (bufL size q.length wr P) 0 _ _ hz (by rw [hlen, bufZ_size]) bufL_one
  have hz2 := setRow_heap _ w.heap.size _ (bufL size q.length wr P).toArray _ _ hz
  have hb : Below w.heap.size w ((w.alloc (.cells bufZ 62)).setRow w.heap.size (bufL size q.length wr P).toArray) := below_setRow ((Below.refl _ _).alloc (Nat.le_refl _) _) (Nat.le_refl _) _
  have HB := Lib.hid (show IsBuf _ w.heap.size size q wr from ⟨P, h1, h2, hz2⟩)
  have HE := Lib.hid hb
  rw [List.take_zero, List.nil_append] at ks
  have kl := run_loadVar_row (P := Try.prog) w g 62 62 (bufL size q.length wr P).toArray (0, 0) _ h3 Try.underlying62 rfl (by rw [List.size_toArray, hlen]; kernel_rfl)
  have ka : (Instr.loadAt 62 (.pointer (some ⟨g, 0, none⟩))).run Try.prog w = .ok (.agg (bufL size q.length wr P).toArray) w := by
    simp only [Instr.loadAt, Instr.sureAddr, Sem.run_bind, Sem.run_pure, Result.andThen_ok, kl]
  have hsz : (Try.prog.info? 62).map (·.size) = some (bufL size q.length wr P).length := by rw [hlen]; kernel_rfl
  clear hz hz2 hb kl ka
  generalize bufL size q.length wr P = L at *
  generalize bufZ = Z at *
  go_enter Try.func22, Try.ntmps22
  clear h1 h2
  have HS := Lib.hid hsz
  clear hsz
  iterate 34 go_step
  refine wp_load_row 62 (.tmp 7) rfl g (by simp [Act.eval]) 62 L.toArray (0, 0) _ h3 Try.underlying62 rfl (by rw [List.size_toArray]; exact HS.out) ?_
  go_wp2_with fail
  go_ret
  exact ⟨rfl, HB.out, HE.out⟩
theorem new_in (size : Nat) (w : World) (h1 : 1 ≤ size) (h2 : size ≤ 256) : Calls Try.prog 23 #[.int .i64 (size : Int)] w fun e w' => e = .returned (.pointer (some ⟨w.heap.size, 0, none⟩)) ∧ IsBuf w' w.heap.size size [] 0 ∧ Below w.heap.size w w' := by
  have kz := zero_buf
  have hs := bufZ_size
  have hset : bufZ.setIfInBounds 0 (.int .i64 (size : Int)) = (bufL size 0 0 (nought 256)).toArray := by
    unfold bufZ
    rw [List.setIfInBounds_toArray]
    rfl
  have i1 : ¬ (size : Int) < 1 := by omega
  have i2 : ¬ (256 : Int) < (size : Int) := by omega
  have HB := Lib.hid (show IsBuf (w.alloc (.cells (bufL size 0 0 (nought 256)).toArray 62)) w.heap.size size [] 0 from ⟨nought 256, nought_len 256, rfl, alloc_new w _⟩)
  have HE := Lib.hid ((Below.refl w.heap.size w).alloc (Nat.le_refl _) (.cells (bufL size 0 0 (nought 256)).toArray 62))
  generalize (bufL size 0 0 (nought 256)).toArray = L at *
  generalize bufZ = Z at *
  have hne : (Z = #[]) = False := by
    apply eq_false
    rintro rfl
    simp at hs
  go_enter Try.func23, Try.ntmps23
  go_wp2_with fail
  go_ret
  exact ⟨rfl, HB.out, HE.out⟩
end Go.Proofs.Ytmjbhmpogpagjaa
