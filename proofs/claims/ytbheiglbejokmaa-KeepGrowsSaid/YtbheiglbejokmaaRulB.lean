/- field.Most, Low: limits put on rules (layer 29). -/
import Derived.Test.YtbheiglbejokmaaRulA
import Derived.Test.YtbheiglbejokmaaFldA
namespace Go.Proofs.Ytbheiglbejokmaa
set_option maxRecDepth 20000
set_option linter.unusedSimpArgs false
set_option linter.unusedVariables false
open Go.RowKit Go.Sort Go.Lib
attribute [local go_sem] Oper.semAt_some
theorem rowRl : RowTy Try.prog 35 5 := ⟨.inl ⟨_, Try.underlying35⟩, by kernel_rfl⟩
theorem fr_3 (b : Nat) (W : World) : (Instr.fieldAt 35 (.pointer (some ⟨b, 0, none⟩)) 3).run Try.prog W = .ok (.pointer (some ⟨b, 3, none⟩)) W := by kernel_rfl
theorem fr_4 (b : Nat) (W : World) : (Instr.fieldAt 35 (.pointer (some ⟨b, 0, none⟩)) 4).run Try.prog W = .ok (.pointer (some ⟨b, 4, none⟩)) W := by kernel_rfl
def rlZ : Array Value := #[.string ByteArray.empty, .int .i64 0, .bool false, .int .i64 0, .bool false]
theorem al_Rl (W : World) : (Instr.alloc 35 true (.tuple #[])).run Try.prog W = .ok (.pointer (some ⟨W.heap.size, 0, none⟩)) (W.alloc (.cells rlZ 35 (0, 0))) := by kernel_rfl
theorem ix_Rl (b off len cap i : Nat) (hi : i < len) (W : World) : (Instr.indexAt 26 (.slice (some ⟨b, off, none⟩) len cap) (.int .i64 (i : Int))).run Try.prog W = .ok (.pointer (some ⟨b, off + i * 5, none⟩)) W := by
  have h1 : (0 : Int) ≤ (i : Int) := by omega
  have h2 : (i : Int) < (len : Int) := by omega
  have e : (⟨b, off, none⟩ : Addr).add (i * 5) = ⟨b, off + i * 5, none⟩ := by unfold Addr.add; split <;> simp_all
  go_simp
theorem rl_one (r : Rl) : r.cs.toArray.all (·.oneCell') = true := by simp [Rl.cs, Value.oneCell']
theorem results_u {P : Program} {w : World} {fn : Func} {tmps : Array Value} (h : fn.results = #[]) : (results fn tmps).run P w = .ok (.tuple #[]) w := by
  simp [results, h]
theorem own_keep {w w' : World} {base : Nat} {e : TypeId} {n size : Nat} {v : Value} {xs : List Value} (h : w.ownsRow base e size v n xs) (hb : Below w.heap.size w w') : w'.ownsRow base e size v n xs := by
  obtain ⟨hl, ⟨rfl, h0⟩ | ⟨g, cap, cur, rfl, hg, hh, r⟩⟩ := h
  · exact ⟨hl, .inl ⟨rfl, h0⟩⟩
  · exact ⟨hl, .inr ⟨g, cap, cur, rfl, hg, (hb.block g (Array.getElem?_eq_some_iff.1 hh).1).trans hh, r⟩⟩
theorem app_l (x : Value) (l : Array Value) : #[] ++ #[x] ++ l = #[x] ++ l := by simp
theorem app_below2 {w wr w3 : World} {e : TypeId} {size n : Nat} {v : Value} {xs : List Value} (hb : Below w.heap.size w wr) (o : wr.ownsRow w.heap.size e size v n xs) (hg : wr.grownBy w3 v.ownBlock) : Below w.heap.size w w3 :=
  hb.grown hg hb.size (fun j hj => (o.lt j hj).1)
/-- What turns a rule behind a pointer. -/
def Turns (f : FuncId) (caps : Array Value) (ch : Rl → Rl) (w : World) : Prop := ∀ (w0 W : World) (M : List Blk) (b : Nat) (r : Rl), Below w.heap.size w w0 → Mem w0 ((b, .cells r.cs.toArray 35 (0, 0)) :: M) W → Calls Try.prog f (#[.pointer (some ⟨b, 0, none⟩)] ++ caps) W fun e w' => e = .returned (.tuple #[]) ∧ Mem w0 ((b, .cells (ch r).cs.toArray 35 (0, 0)) :: M) w'
set_option maxRecDepth 100000 in
theorem most1_any (w : World) (g : Nat) (m : Int) (hg : w.heap[g]? = some (.cells #[.int .i64 m] 3 (0, 0))) : Turns 47 #[.pointer (some ⟨g, 0, none⟩)] (fun r => { r with most := m }) w := by
  intro w0 W M b r hb hM
  obtain ⟨nm, kd, mu, ms, lw⟩ := r
  show Calls Try.prog 47 #[.pointer (some ⟨b, 0, none⟩), .pointer (some ⟨g, 0, none⟩)] W _
  have hgW : W.heap[g]? = some (.cells #[.int .i64 m] 3 (0, 0)) := ((hb.trans (hM.below.mono hb.size)).block g (Array.getElem?_eq_some_iff.1 hg).1).trans hg
  have HM : Hid (Mem w0 ((b, .cells #[.string nm, .int .i64 kd, .bool mu, .int .i64 ms, .bool lw] 35 (0, 0)) :: M) W) := Lib.hid hM
  clear hM hg hb
  go_enter Try.func47, Try.ntmps47
  go_upto_region 0 with fail
  refine wp_region_lit ?_
  refine wl_pure (v := .pointer (some ⟨b, 0, none⟩)) (fun W => rfl) rfl ?_
  simp only [nm0, nm1, nm2, nm3]
  refine wl_val (v := .int .i64 m) (run_load_cell rfl rfl hgW rfl cellI) rfl ?_
  simp only [nm0, nm1, nm2, nm3]
  refine wl_pure (v := .pointer (some ⟨b, 0, none⟩)) (fun W => by go_simp) rfl ?_
  simp only [nm0, nm1, nm2, nm3]
  refine wl_pure (v := .pointer (some ⟨b, 3, none⟩)) (fun W => run_field_of rfl rfl (fr_3 _ W)) rfl ?_
  simp only [nm0, nm1, nm2, nm3]
  refine wl_setat HM.out 0 (cs' := #[.string nm, .int .i64 kd, .bool mu, .int .i64 m, .bool lw]) rfl rfl rfl rfl (by show 3 < 5; decide) rfl cellI rfl rfl rfl fun W2 hM2 => ?_
  simp only [nm2, nm3] at hM2
  refine wpList_nil ?_
  go_wp2_with fail
  exact bodyPost_end (v := .tuple #[]) (results_u rfl) rfl ⟨rfl, hM2⟩
set_option maxRecDepth 100000 in
theorem low1_any (w : World) : Turns 48 #[] (fun r => { r with low := true }) w := by
  intro w0 W M b r hb hM
  obtain ⟨nm, kd, mu, ms, lw⟩ := r
  show Calls Try.prog 48 #[.pointer (some ⟨b, 0, none⟩)] W _
  have HM : Hid (Mem w0 ((b, .cells #[.string nm, .int .i64 kd, .bool mu, .int .i64 ms, .bool lw] 35 (0, 0)) :: M) W) := Lib.hid hM
  clear hM hb
  go_enter Try.func48, Try.ntmps48
  go_upto_region 0 with fail
  refine wp_region_lit ?_
  refine wl_pure (v := .pointer (some ⟨b, 0, none⟩)) (fun W => rfl) rfl ?_
  simp only [nm0, nm1, nm2, nm3]
  refine wl_pure (v := .pointer (some ⟨b, 0, none⟩)) (fun W => by go_simp) rfl ?_
  simp only [nm0, nm1, nm2, nm3]
  refine wl_pure (v := .pointer (some ⟨b, 4, none⟩)) (fun W => run_field_of rfl rfl (fr_4 _ W)) rfl ?_
  simp only [nm0, nm1, nm2, nm3]
  refine wl_setat HM.out 0 (cs' := #[.string nm, .int .i64 kd, .bool mu, .int .i64 ms, .bool true]) rfl rfl rfl rfl (by show 4 < 5; decide) rfl cellB rfl rfl rfl fun W2 hM2 => ?_
  simp only [nm2, nm3] at hM2
  refine wpList_nil ?_
  go_wp2_with fail
  exact bodyPost_end (v := .tuple #[]) (results_u rfl) rfl ⟨rfl, hM2⟩
theorem bs_Rl (r : Rl) (W : World) : (Instr.buildSlice 26 1 #[(0, .agg r.cs.toArray)]).run Try.prog W = .ok (.slice (some ⟨W.heap.size, 0, none⟩) 1 1) (W.alloc (.cells r.cs.toArray 35 (0, 0))) := by
  obtain ⟨nm, kd, mu, ms, lw⟩ := r
  show (Instr.buildSlice 26 1 #[(0, .agg #[.string nm, .int .i64 kd, .bool mu, .int .i64 ms, .bool lw])]).run Try.prog W = .ok (.slice (some ⟨W.heap.size, 0, none⟩) 1 1) (W.alloc (.cells #[.string nm, .int .i64 kd, .bool mu, .int .i64 ms, .bool lw] 35 (0, 0)))
  go_simp
set_option maxRecDepth 100000 in
set_option maxHeartbeats 4000000 in
theorem with_any (w : World) (f : FuncId) (caps : Array Value) (ch : Rl → Rl) (hE : Enters Try.prog f) (hT : Turns f caps ch w) (v : Value) (L : List Rl) (hL : IsRl w v L) (hmx : L.length ≤ 1000) :
    Calls Try.prog 46 #[v, .func (.func f) #[] caps] w fun e w' => ∃ v', e = .returned v' ∧ IsRl w' v' (L.map ch) ∧ Below w.heap.size w w' := by
  obtain ⟨i0, hi, hz0, hz1, hz2⟩ := info_parts Try.info_rule
  obtain ⟨a, len, cap, rfl, hlen, hlm, hrow⟩ := hL
  have HR := Lib.hid hrow
  have HT := Lib.hid hT
  have HL := Lib.hid hlen
  have hmx2 : len ≤ 1000 := by omega
  clear hrow hT hmx hlen
  go_enter Try.func46, Try.ntmps46
  go_wp2_with fail
  go_loopw [5, 10] (fun v5 i wr => ∃ k : Nat, i = .int .i64 (k : Int) ∧ k ≤ len ∧ wr.ownsRow w.heap.size 35 5 v5 k (rlV ((L.take k).map ch)) ∧ Below w.heap.size w wr) (fun _ i _ => len - (Go.RowKit.intOf i).toNat)
  case atStart => exact ⟨0, rfl, Nat.zero_le _, ⟨rfl, .inl ⟨rfl, rfl⟩⟩, Below.refl _ _⟩
  case round =>
    obtain ⟨k, rfl, hk, hown, hb⟩ := hrel
    have HB := Lib.hid hb
    by_cases hlt : k < len
    · have d1 : (k : Int) < (len : Int) := by omega
      have b1 : decide ((k : Int) < (len : Int)) = true := decide_eq_true d1
      obtain ⟨b, off, rfl, hbl, _⟩ := HR.out.at_ (by omega)
      have hc := Lib.hid ((HR.out.below hb).cells hlt)
      obtain ⟨r, er⟩ : ∃ x, x = L.getD k rl0 := ⟨_, rfl⟩
      rw [← er] at hc
      have ER := Lib.hid er
      have hbs := hb.size
      have HO := Lib.hid hown
      clear er hb hown
      obtain ⟨cs, ecs⟩ : ∃ x, x = r.cs.toArray := ⟨_, rfl⟩
      rw [← ecs] at hc
      have hcs : cs.size = 5 := by rw [ecs]; rfl
      have hc1 : cs.all (·.oneCell') = true := by rw [ecs]; exact rl_one r
      have hM0 := Mem.start wr
      go_upto_region 4 with fail
      refine wp_region_lit ?_
      refine wl_pure (v := .pointer (some ⟨b, off + k * 5, none⟩)) (fun W => run_index_of rfl rfl rfl (ix_Rl b off len cap k hlt W)) rfl ?_
      simp only [nm0, nm1, nm2, nm3]
      refine wl_val (v := .agg cs) (run_load_cs rfl rfl hc.out (by rw [hcs]; exact rowRl)) rfl ?_
      simp only [nm0, nm1, nm2, nm3]
      refine wl_new hM0 (f := fun b => .pointer (some ⟨b, 0, none⟩)) (fun W => run_alloc_of rfl (al_Rl W)) rfl fun g W1 hM1 => ?_
      simp only [nm0, nm1, nm2, nm3]
      refine wl_set hM1 0 (cs := cs) rfl rfl rfl rfl (by rw [hcs]; exact rowRl) (by rw [hcs]; rfl) hc1 rfl rfl fun W2 hM2 => ?_
      simp only [nm2, nm3] at hM2
      refine wpList_nil ?_
      go_upto_region 5 with fail
      refine wp_region_lit ?_
      refine wl_pure (v := .func (.func f) #[] caps) (fun W => rfl) rfl ?_
      simp only [nm0, nm1, nm2, nm3]
      subst ecs
      have hX := HT.out wr W2 [] g r HB.out hM2
      have hX2 : Calls Try.prog f (#[.pointer (some ⟨g, 0, none⟩)] ++ caps) W2 fun e w' => e = .returned (.tuple #[]) ∧ Mem wr [(g, .cells (ch r).cs.toArray 35 (0, 0))] w' := hX
      generalize eal : (#[.pointer (some ⟨g, 0, none⟩)] ++ caps : Array Value) = al at hX2
      refine wl_callM (args := al) (fun W => run_call_dyn W hE rfl rfl (by simp [Act.eval]) ((app_l _ _).trans eal)) hX2 rfl fun W3 hM3 => ?_
      simp only [nm0, nm1, nm2, nm3]
      refine wpList_nil ?_
      obtain ⟨ds, eds⟩ : ∃ x, x = (ch r).cs.toArray := ⟨_, rfl⟩
      rw [← eds] at hM3
      have hds : ds.size = 5 := by rw [eds]; rfl
      have hd1 : ds.all (·.oneCell') = true := by rw [eds]; exact rl_one _
      have EDS := Lib.hid eds
      clear eds
      go_upto_region 6 with fail
      refine wp_region_lit ?_
      refine wl_pure (v := u5) (fun W => rfl) rfl ?_
      simp only [nm0, nm1, nm2, nm3]
      refine wl_row hM3 0 (v := .agg ds) rfl rfl rfl rfl (by rw [hds]; exact rowRl) rfl ?_
      simp only [nm0, nm1, nm2, nm3]
      have hbz : (Instr.buildSlice 26 1 #[(0, .agg ds)]).run Try.prog = fun W => .ok (.slice (some ⟨W.heap.size, 0, none⟩) 1 1) (W.alloc (.cells ds 35 (0, 0))) := by funext W; rw [EDS.out]; exact bs_Rl _ W
      refine wl_new hM3 (f := fun b => .slice (some ⟨b, 0, none⟩) 1 1) (ob := .cells ds 35 (0, 0)) (fun W => run_slice_of rfl (by simp [Act.eval]) (congrFun hbz W)) rfl fun g4 W4 hM4 => ?_
      simp only [nm0, nm1, nm2, nm3]
      have hown4 := own_keep HO.out hM4.below
      refine wpList_append_own W4 rfl (.tmp 16) (.tmp 18) 26 rfl w.heap.size 35 i0 _ 5 48 Try.underlying26 hi hz0 hz1 hz2 rfl (by decide) u5 k _ rfl hown4 ⟨g4, 0, none⟩ 1 1 ds.toList rfl (by rw [Array.length_toList, hds]) (news_at (hM4.get 0 rfl)) (fun u hu => Array.all_eq_true'.1 hd1 u (by simpa using hu)) (by unfold maxLen; omega) (by omega) (Nat.le_trans hbs hM4.below.size) ?_
      intro v5 w5 hown5 hgr5 _
      simp only [nm0, nm1, nm2, nm3]
      refine wl_pure (v := v5) (fun W => rfl) rfl ?_
      simp only [nm0, nm1, nm2, nm3]
      refine wpList_nil ?_
      clear HO hX hX2 eal hM0 hM1 hM2 hM3 hbz hc
      have HM4 := Lib.hid hM4
      have H5 := Lib.hid hown5
      have HO4 := Lib.hid hown4
      clear hM4 hown5 hown4
      go_wp2_with fail
      refine ⟨⟨k + 1, rfl, hlt, ?_, app_below2 (HB.out.trans (HM4.out.below.mono hbs)) HO4.out hgr5⟩, by show len - ((k : Int) + 1).toNat < len - (k : Int).toNat; omega⟩
      have h5 := H5.out
      have e1 : ds.toList = (ch (L.getD k rl0)).cs := by rw [EDS.out, ER.out]
      rw [e1, rlV_snoc, map_snoc ch L rl0 k (by rw [HL.out]; exact hlt)] at h5
      exact h5
    · have b1 : decide ((k : Int) < (len : Int)) = false := decide_eq_false (by omega)
      obtain rfl : k = len := by omega
      rw [List.take_of_length_le (by rw [HL.out]; exact Nat.le_refl _)] at hown
      have hfin := own_rl (L := L.map ch) (by rw [List.length_map, HL.out]; exact hown)
      have HF := Lib.hid hfin
      clear hown hfin hb
      go_wp2_with fail
      go_ret
      exact ⟨_, rfl, HF.out, HB.out⟩
set_option maxRecDepth 100000 in
theorem most_any (w : World) (m : Int) (v : Value) (L : List Rl) (hL : IsRl w v L) (hmx : L.length ≤ 1000) :
    Calls Try.prog 17 #[.int .i64 m, v] w fun e w' => ∃ v', e = .returned v' ∧ IsRl w' v' (L.map fun r => { r with most := m }) ∧ Below w.heap.size w w' := by
  have hM := (Mem.start w).new1 (.cells #[.int .i64 m] 3 (0, 0))
  have K := Lib.hid (with_any (w.alloc (.cells #[.int .i64 m] 3 (0, 0))) 47 #[.pointer (some ⟨w.heap.size, 0, none⟩)] _ (enters_of Try.func47 (by kernel_rfl) rfl) (most1_any _ w.heap.size m (hM.get 0 rfl)) v L (hL.keep hM.below) hmx)
  have HM := Lib.hid hM
  clear hM hL
  go_enter Try.func17, Try.ntmps17
  go_wp2_with fail
  refine K.out.mono ?_
  rintro e w' ⟨v', rfl, h1, h2⟩
  have H := Lib.hid (And.intro h1 (HM.out.below.trans (h2.mono HM.out.below.size)))
  clear h1 h2
  go_wp2_with fail
  go_ret
  exact ⟨_, rfl, H.out⟩
set_option maxRecDepth 100000 in
theorem low_any (w : World) (v : Value) (L : List Rl) (hL : IsRl w v L) (hmx : L.length ≤ 1000) :
    Calls Try.prog 18 #[v] w fun e w' => ∃ v', e = .returned v' ∧ IsRl w' v' (L.map fun r => { r with low := true }) ∧ Below w.heap.size w w' := by
  have K := Lib.hid (with_any w 48 #[] _ (enters_of Try.func48 (by kernel_rfl) rfl) (low1_any _) v L hL hmx)
  clear hL
  go_enter Try.func18, Try.ntmps18
  go_wp2_with fail
  refine K.out.mono ?_
  rintro e w' ⟨v', rfl, h1, h2⟩
  have H := Lib.hid (And.intro h1 h2)
  clear h1 h2
  go_wp2_with fail
  go_ret
  exact ⟨_, rfl, H.out⟩
end Go.Proofs.Ytbheiglbejokmaa
