/- The reference's All (layer 7), over a node that came in. -/
import Derived.Test.YtbheiglbejokmaaNodF
namespace Go.Proofs.Ytbheiglbejokmaa
set_option maxRecDepth 20000
set_option linter.unusedSimpArgs false
set_option linter.unusedVariables false
open Go.RowKit Go.Sort Go.Lib
attribute [local go_sem] Oper.semAt_some
/-- Nodes one behind the other: their cells, and what they are in a world. -/
structure NdCells (w : World) (Ks : List (List Value)) (Ns : List Nd) : Prop where
  len : Ks.length = Ns.length
  nd : ∀ (i : Nat) (h : i < Ns.length), IsNd w (Ks.getD i []) Ns[i]
theorem NdCells.five {w : World} {Ks : List (List Value)} {Ns : List Nd} (h : NdCells w Ks Ns) : ∀ c ∈ Ks, c.length = 5 := by
  intro c hc
  obtain ⟨i, hi, rfl⟩ := List.mem_iff_getElem.1 hc
  have h1 := h.nd i (by rw [← h.len]; exact hi)
  have e : Ks.getD i [] = Ks[i] := by simp [hi]
  rw [e] at h1
  exact isNd_len2 h1
theorem NdCells.one {w : World} {Ks : List (List Value)} {Ns : List Nd} (h : NdCells w Ks Ns) : ∀ u ∈ Ks.flatten, u.oneCell' = true := by
  intro u hu
  obtain ⟨c, hc, huc⟩ := List.mem_flatten.1 hu
  obtain ⟨i, hi, rfl⟩ := List.mem_iff_getElem.1 hc
  have h1 := h.nd i (by rw [← h.len]; exact hi)
  have e : Ks.getD i [] = Ks[i] := by simp [hi]
  rw [e] at h1
  have h2 := isNd_one h1
  exact Array.all_eq_true'.1 h2 u (by simpa using huc)
theorem NdCells.append {w : World} {Ks Ks2 : List (List Value)} {Ns Ns2 : List Nd} (h : NdCells w Ks Ns) (h2 : NdCells w Ks2 Ns2) : NdCells w (Ks ++ Ks2) (Ns ++ Ns2) := by
  refine ⟨by rw [List.length_append, List.length_append, h.len, h2.len], fun i hi => ?_⟩
  by_cases c : i < Ns.length
  · rw [List.getElem_append_left c]
    have e : (Ks ++ Ks2).getD i [] = Ks.getD i [] := by
      simp only [List.getD_eq_getElem?_getD]
      rw [List.getElem?_append_left (by rw [h.len]; exact c)]
    rw [e]
    exact h.nd i c
  · have hl : i - Ns.length < Ns2.length := by rw [List.length_append] at hi; omega
    rw [List.getElem_append_right (by omega)]
    have e : (Ks ++ Ks2).getD i [] = Ks2.getD (i - Ns.length) [] := by
      simp only [List.getD_eq_getElem?_getD]
      rw [List.getElem?_append_right (by rw [h.len]; omega), h.len]
    rw [e]
    exact h2.nd _ hl
theorem flatten_five : ∀ (Ks : List (List Value)), (∀ c ∈ Ks, c.length = 5) → Ks.flatten.length = Ks.length * 5
  | [], _ => rfl
  | c :: r, h => by
    rw [List.flatten_cons, List.length_append, flatten_five r (fun x hx => h x (List.mem_cons_of_mem _ hx)), h c (List.mem_cons_self ..), List.length_cons, Nat.succ_mul, Nat.add_comm]
theorem flatten_at : ∀ (Ks : List (List Value)), (∀ c ∈ Ks, c.length = 5) → ∀ i j, i < Ks.length → j < 5 → Ks.flatten[i * 5 + j]? = (Ks.getD i [])[j]?
  | [], _, i, j, h, _ => by simp at h
  | c :: r, h5, i, j, h, hj => by
    have hc := h5 c (List.mem_cons_self ..)
    rw [List.flatten_cons]
    cases i with
    | zero => rw [Nat.zero_mul, Nat.zero_add, List.getElem?_append_left (by rw [hc]; exact hj)]; simp
    | succ i =>
      rw [List.getElem?_append_right (by rw [hc, Nat.succ_mul]; omega), hc]
      have e : (i + 1) * 5 + j - 5 = i * 5 + j := by rw [Nat.succ_mul]; omega
      rw [e, flatten_at r (fun x hx => h5 x (List.mem_cons_of_mem _ hx)) i j (by simpa using h) hj]
      simp
/-- What All answers: a slice of the call's own. -/
def AllAns (w w' : World) (v : Value) (Ns : List Nd) : Prop := ∃ (b cap : Nat) (Ks : List (List Value)), v = .slice (some ⟨b, 0, none⟩) Ns.length cap ∧ NdCells w Ks Ns ∧ RowAt w' (some ⟨b, 0, none⟩) Ns.length 5 (fun i => Ks.getD i [])
theorem row0_all {w0 w : World} {T : TypeId} {v : Value} {n : Nat} {xs : List Value} {B M : List Blk} (h : Row0 T 5 v n xs B) (hM : Mem w0 (B ++ M) w) (hn : 0 < n) (Ks : List (List Value)) (hx : xs = Ks.flatten) (hl : Ks.length = n) (h5 : ∀ c ∈ Ks, c.length = 5) : ∃ g cap, v = .slice (some ⟨g, 0, none⟩) n cap ∧ RowAt w (some ⟨g, 0, none⟩) n 5 (fun i => Ks.getD i []) := by
  cases h with
  | nil => omega
  | @own g cap _ _ r ok =>
    subst hx
    have hg := hM.get 0 rfl
    refine ⟨g, cap, rfl, ⟨fun h0 => ⟨g, 0, rfl, (Array.getElem?_eq_some_iff.1 hg).1, fun i hi => ?_⟩⟩⟩
    have hi2 : i < Ks.length := by omega
    have e0 : Ks.getD i [] = Ks[i] := by simp [hi2]
    refine ⟨by rw [e0]; exact h5 _ (List.getElem_mem hi2), fun j hj => ?_⟩
    rw [cell_of_row w g _ _ T (0, 0) hg, Nat.zero_add, ← flatten_at Ks h5 i j hi2 hj]
    have hll : i * 5 + j < Ks.flatten.length := by rw [flatten_five Ks h5]; omega
    simp [List.getElem?_append_left hll]
/-- append of a row of any place onto a row of the call's own, in a region of the text's order. -/
theorem wl_app {P : Program} {w w0 : World} {M : List Blk} {o : Oper} {A : Act} {ops : Array Oper} {Q : Exit → Act → World → Prop} {rest : List Oper} {d : Tmp} (hdd : o.dst = some d) (hgd : o.guard = none) {B : List Blk} (hM : Mem w0 (B ++ M) w) {v : Value} {e : TypeId} {size k : Nat} {xs : List Value} (hR : Row0 e size v k xs B) {s x : Operand} {t : TypeId} (ho : o.op = .call { callee := .builtin .append, args := #[s, x], argTypes := #[t, t] }) {i : TypeInfo} {z : Value} {bytes : Nat} (ht : P.underlying t = some (.slice e)) (hi : P.info? e = some i) (hz : i.zero = some z)
    (hsize : i.size = size) (hby : i.bytes = bytes) (hzs : z.cells.size = size) (hsz : 0 < size) (hs : A.eval s = v) {ad : Addr} {m c : Nat} {news : List Value} (hx : A.eval x = .slice (some ad) m c) (hb : ∀ j u, news[j]? = some u → w.cell? (ad.add j) = some u) (hm : 0 < m) (hl : news.length = m * size) (hone : ∀ u ∈ news, u.oneCell' = true) (h63 : k + m ≤ maxLen) (hbytes : (k + m) * bytes ≤ 140737488355328)
    (hk : ∀ v' B' W, Row0 e size v' (k + m) (xs ++ news) B' → Mem w0 (B' ++ M) W → wpList P ops Q rest (A.put (some d) v') W) : wpList P ops Q (o :: rest) A w := by
  refine wpList_plain hgd fun K hK => ?_
  cases hR with
  | nil =>
    obtain ⟨v', w', hrun, h2, h3, _, _⟩ := run_append_own_at (P := P) w w.heap.size t o.type e i z size bytes ht hi hz hsize hby hzs hsz (.slice none 0 0) 0 [] (World.ownsRow_nil _ _ _ _) ad m c news hl hb hone (by omega) (by rw [Nat.zero_add]; simpa using hbytes) (Nat.le_refl _)
    rw [Nat.zero_add, List.nil_append] at h2
    obtain ⟨g, cap, r, rfl, hok, hM'⟩ := mem_app_nil hM hm h2 h3
    unfold Oper.wp execOp
    simp only [ho, resolve, invoke, builtin, Sem.run_bind, Sem.run_pure, Result.andThen_ok, List.map_toArray, List.map_cons, List.map_nil, hs, hx, hrun]
    have k2 := hk (.slice (some ⟨g, 0, none⟩) m cap) _ w' (by rw [Nat.zero_add, List.nil_append]; exact .own hok) (by simpa using hM')
    rw [← hdd] at k2
    exact hK _ _ k2
  | @own g cap _ _ r hok =>
    have hM2 : Mem w0 ((g, .cells (xs ++ r).toArray e (0, 0)) :: M) w := hM
    have hgo := hM2.get 0 rfl
    have hlow := hM2.low (g, .cells (xs ++ r).toArray e (0, 0)) (by simp)
    obtain ⟨v', w', hrun, h2, h3, _, h5⟩ := run_append_own_at (P := P) w w0.heap.size t o.type e i z size bytes ht hi hz hsize hby hzs hsz (.slice (some ⟨g, 0, none⟩) k cap) k xs ⟨hok.len, .inr ⟨g, cap, _, rfl, hlow, hgo, hok.le, hok.max, by rw [List.size_toArray]; exact hok.all, by rw [← hok.len]; exact List.take_left⟩⟩ ad m c news hl hb hone h63 hbytes hM2.below.size
    obtain ⟨g', cap', r', rfl, hok', hM'⟩ := mem_app_row hM2 (by omega) h2 h3 h5
    unfold Oper.wp execOp
    simp only [ho, resolve, invoke, builtin, Sem.run_bind, Sem.run_pure, Result.andThen_ok, List.map_toArray, List.map_cons, List.map_nil, hs, hx, hrun]
    have k2 := hk _ _ w' (.own hok') hM'
    rw [← hdd] at k2
    exact hK _ _ k2
theorem perm_one (x : Blk) (B : List Blk) : (x :: B).Perm (B ++ [x]) := List.perm_append_comm (l₁ := [x])
theorem row_news {w : World} {b n : Nat} {Ks : List (List Value)} (h : RowAt w (some ⟨b, 0, none⟩) n 5 (fun i => Ks.getD i [])) (hl : Ks.length = n) (h5 : ∀ c ∈ Ks, c.length = 5) : ∀ j u, Ks.flatten[j]? = some u → w.cell? ((⟨b, 0, none⟩ : Addr).add j) = some u := by
  intro j u hu
  have hj := (List.getElem?_eq_some_iff.1 hu).1
  rw [flatten_five Ks h5] at hj
  have hadd : (⟨b, 0, none⟩ : Addr).add j = ⟨b, j, none⟩ := by unfold Addr.add; split <;> simp_all
  obtain ⟨b', o', e, _, hc⟩ := h.at_ (by omega)
  cases e
  have h1 := (hc (j / 5) (by omega)).2 (j % 5) (Nat.mod_lt _ (by decide))
  have e5 : j / 5 * 5 + j % 5 = j := by omega
  rw [Nat.zero_add, e5] at h1
  rw [hadd, h1, ← flatten_at Ks h5 (j / 5) (j % 5) (by omega) (Nat.mod_lt _ (by decide)), e5, hu]
set_option maxRecDepth 100000 in
set_option maxHeartbeats 4000000 in
theorem all_any (w0 : World) : ∀ (n : Nat) (w : World) (cs : List Value) (N : Nd), N.all.length = n → n ≤ 1048576 → IsNd w0 cs N → Below w0.heap.size w0 w →
    Calls Try.prog 39 #[.agg cs.toArray] w fun e w' => ∃ v, e = .returned v ∧ AllAns w0 w' v N.all ∧ Below w.heap.size w w' := by
  intro n
  induction n using Nat.strongRecOn with
  | ind n ih =>
    intro w cs N hn hbig h hb0
    have HB0 := Lib.hid hb0
    have IH := Lib.hid ih
    obtain ⟨i1, hj, hy0, hy1, hy2⟩ := info_parts Try.info_nd
    have hself : NdCells w0 [cs] [N] := ⟨rfl, fun i hi => by
      obtain rfl : i = 0 := by simpa using hi
      exact h⟩
    have HSELF := Lib.hid hself
    have HK0 : Hid (∀ i (h : i < N.vals.length), (N.vals[i]).all.length < n) := Lib.hid (fun i h => by rw [← hn]; exact all_kid N i h)
    have HALL := Lib.hid (show N.all = N :: Nd.allL N.vals from Nd.all_mk N)
    have HN := Lib.hid hn
    have hcs := isNd_len h
    have hcs1 := isNd_one h
    obtain ⟨NN, eNN⟩ : ∃ z, z = N := ⟨_, rfl⟩
    have ENN := Lib.hid eNN
    cases h with
    | @mk kind nn s ks ls ak lk ck al ll cl kid hkind hn2 hs hk hl hlm hrow hkids =>
      subst hl
      clear hb0
      rw [← eNN] at HSELF HALL HN ⊢
      have HROW := Lib.hid hrow
      have HKIDS := Lib.hid hkids
      have HK0 : Hid (∀ i (h : i < ls.length), (ls[i]).all.length < n) := HK0
      have HALL : Hid (NN.all = NN :: Nd.allL ls) := Lib.hid (by rw [HALL.out, eNN]; rfl)
      clear hrow hkids hk hs hkind hn2 hn ih eNN ENN hself
      obtain ⟨cl0, ecl⟩ : ∃ z : List Value, z = [.int .i64 kind, .int .i64 nn, .string s, .slice ak lk ck, .slice al ls.length cl] := ⟨_, rfl⟩
      have h4 : cl0.toArray[4]? = some (.slice al ls.length cl) := by rw [ecl]; rfl
      rw [← ecl] at hcs hcs1 HSELF ⊢
      clear ecl
      obtain ⟨ca, eca⟩ : ∃ z : Array Value, z = cl0.toArray := ⟨_, rfl⟩
      rw [← eca] at hcs hcs1 h4 ⊢
      have ECA := Lib.hid eca
      clear eca
      go_enter Try.func39, Try.ntmps39
      go_upto_region 0 with fail
      have hM0 := Mem.start w
      refine wp_region_lit ?_
      refine wl_new hM0 (f := fun b => .pointer (some ⟨b, 0, none⟩)) (ob := .cells ca 25 (0, 0)) (fun W => run_box_of rfl rfl (bx_Nd ca hcs W)) rfl fun b1 W1 hM1 => ?_
      simp only [nm0, nm1, nm2, nm3]
      refine wl_pure (v := .slice none 0 0) (fun W => rfl) rfl ?_
      simp only [nm0, nm1, nm2, nm3]
      refine wpList_nil ?_
      go_upto_region 1 with fail
      refine wp_region_lit ?_
      refine wl_row hM1 0 (v := .agg ca) rfl rfl rfl rfl (by rw [hcs]; exact rowNd) rfl ?_
      simp only [nm0, nm1, nm2, nm3]
      refine wl_new hM1 (f := fun b => .slice (some ⟨b, 0, none⟩) 1 1) (ob := .cells ca 25 (0, 0)) (fun W => run_slice_of rfl (by simp [Act.eval]) (bs_nd ca hcs W)) rfl fun g W2 hM2 => ?_
      simp only [nm0, nm1, nm2, nm3]
      refine wl_pure (v := .slice (some ⟨g, 0, none⟩) 1 1) (fun W => rfl) rfl ?_
      simp only [nm0, nm1, nm2, nm3]
      refine wpList_nil ?_
      have hr0 : Row0 25 5 (.slice (some ⟨g, 0, none⟩) 1 1) 1 cl0 [(g, .cells ca 25 (0, 0))] := by
        have e : ca = (cl0 ++ []).toArray := by rw [ECA.out]; simp
        have hl : cl0.length = 5 := by have h := hcs; rw [ECA.out] at h; simpa using h
        rw [e]
        exact .own ⟨by rw [hl], by simp [hl], Nat.le_refl _, by decide⟩
      have HR0 := Lib.hid hr0
      have HM2 := Lib.hid hM2
      clear hM0 hM1 hM2 hr0
      go_wp2_with fail
      go_loopw [3, 4] (fun v3 v4 wr => ∃ (k m : Nat) (Ks : List (List Value)) (B : List Blk), v4 = .int .i64 (k : Int) ∧ k ≤ ls.length ∧ Hid (m = (NN :: Nd.allL (ls.take k)).length) ∧ Hid (Row0 25 5 v3 m Ks.flatten B) ∧ Hid (NdCells w0 Ks (NN :: Nd.allL (ls.take k))) ∧ Hid (Mem w (B ++ [(b1, .cells ca 25 (0, 0))]) wr)) (fun _ v4 _ => ls.length - (Go.RowKit.intOf v4).toNat)
      case atStart => exact ⟨0, 1, [cl0], _, rfl, Nat.zero_le _, Lib.hid (by rw [List.take_zero, Nd.allL]; rfl), Lib.hid (by simpa using HR0.out), Lib.hid (by rw [List.take_zero, Nd.allL]; exact HSELF.out), HM2⟩
      case round =>
        obtain ⟨k, m, Ks, B, rfl, hk, HMM, HR, HC, HM⟩ := hrel
        clear HM2 HR0
        have hMb : Mem w ((b1, .cells ca 25 (0, 0)) :: B) wr := HM.out.perm (perm_one _ B)
        have c4 := cell_of_row wr b1 4 _ _ _ (hMb.get 0 rfl)
        rw [h4] at c4
        have HMb := Lib.hid hMb
        clear hMb
        by_cases hlt : k < ls.length
        · have b1b : decide ((k : Int) < (ls.length : Int)) = true := decide_eq_true (by omega)
          obtain ⟨b, off, rfl, hbl, _⟩ := HROW.out.at_ (by omega)
          have hbr := HB0.out.trans (HMb.out.below.mono HB0.out.size)
          have hc := Lib.hid ((HROW.out.below hbr).cells hlt)
          have hN := HKIDS.out k hlt
          have h5 := isNd_len hN
          have hkl := HK0.out k hlt
          have hih := Lib.hid (IH.out _ hkl wr (kid k) ls[k] rfl (by omega) hN hbr)
          obtain ⟨ck2, eck⟩ : ∃ c, c = (kid k).toArray := ⟨_, rfl⟩
          rw [← eck] at hc hih h5
          clear hN eck
          have hcnt : (NN :: Nd.allL (ls.take (k + 1))).length ≤ n := by
            have h1 := HN.out
            rw [HALL.out, ← List.take_append_drop (k + 1) ls, allL_app] at h1
            simp only [List.length_cons, List.length_append] at h1 ⊢
            omega
          have hstep : NN :: Nd.allL (ls.take (k + 1)) = (NN :: Nd.allL (ls.take k)) ++ (ls[k]).all := by rw [allL_take ls k hlt]; rfl
          rw [hstep] at hcnt
          rw [List.length_append, ← HMM.out] at hcnt
          have HST := Lib.hid hstep
          clear hstep
          go_upto_region 5 with fail
          refine wp_region_lit ?_
          refine wl_pure (v := u3) (fun W => rfl) rfl ?_
          simp only [nm0, nm1, nm2, nm3]
          refine wl_pure (v := .pointer (some ⟨b1, 4, none⟩)) (fun W => run_field_of rfl rfl (fl_L _ W)) rfl ?_
          simp only [nm0, nm1, nm2, nm3]
          refine wl_cell HMb.out 0 (v := .slice (some ⟨b, off, none⟩) ls.length cl) rfl rfl rfl h4 cellKs rfl ?_
          simp only [nm0, nm1, nm2, nm3]
          refine wl_pure (v := .int .i64 (k : Int)) (fun W => rfl) rfl ?_
          simp only [nm0, nm1, nm2, nm3]
          refine wl_pure (v := .pointer (some ⟨b, off + k * 5, none⟩)) (fun W => run_index_of rfl rfl rfl (ix_L b off ls.length cl k hlt W)) rfl ?_
          simp only [nm0, nm1, nm2, nm3]
          refine wl_val (v := .agg ck2) (run_load_cs rfl rfl hc.out (by rw [h5]; exact rowNd)) rfl ?_
          simp only [nm0, nm1, nm2, nm3]
          refine wl_callX (args := #[.agg ck2]) (fun W => run_call_fn W (enters_of Try.func39 (by kernel_rfl) rfl) rfl (by simp [Act.eval])) hih.out rfl ?_
          rintro e w6 ⟨v6, rfl, ⟨g6, cap6, Ks6, rfl, hC6, hR6⟩, hb6⟩
          refine ⟨_, rfl, ?_⟩
          simp only [nm0, nm1, nm2, nm3]
          have hM6 := HM.out.calls hb6
          have hnew := row_news hR6 hC6.len hC6.five
          have hfl := flatten_five Ks6 hC6.five
          rw [hC6.len] at hfl
          have hpos := Nd.all_pos ls[k]
          obtain ⟨m6, em6⟩ : ∃ z, z = (ls[k]).all.length := ⟨_, rfl⟩
          rw [← em6] at hcnt hfl hpos ⊢
          refine wl_app (d := 21) rfl rfl hM6 HR.out rfl Try.underlying23 hj hy0 hy1 hy2 rfl (by decide) rfl (news := Ks6.flatten) rfl hnew hpos hfl hC6.one (by unfold maxLen; omega) (by omega) fun v7 B7 W7 hR7 hM7 => ?_
          simp only [nm0, nm1, nm2, nm3]
          refine wl_pure (v := v7) (fun W => rfl) rfl ?_
          simp only [nm0, nm1, nm2, nm3]
          refine wpList_nil ?_
          have HR7 : Hid (Row0 25 5 v7 (m + m6) (Ks ++ Ks6).flatten B7) := Lib.hid (by rw [List.flatten_append]; exact hR7)
          have HC7 : Hid (NdCells w0 (Ks ++ Ks6) (NN :: Nd.allL (ls.take (k + 1)))) := Lib.hid (by
            rw [HST.out]
            exact HC.out.append hC6)
          have HM7 := Lib.hid hM7
          have HMM7 : Hid (m + m6 = (NN :: Nd.allL (ls.take (k + 1))).length) := Lib.hid (by rw [HST.out, List.length_append, ← HMM.out, em6])
          have hw1 : wrap64 ((k : Int) + 1) = ((k + 1 : Nat) : Int) := wrap_succ hlt hlm
          have HW := Lib.hid hw1
          clear hw1 hih hc HM HMb hM6 hM7 hR7 hR6 hnew hb6 c4 hbr hcnt hfl em6
          go_wp2_with fail
          exact ⟨⟨k + 1, m + m6, _, B7, congrArg (Value.int .i64) HW.out, hlt, HMM7, HR7, HC7, HM7⟩, by rw [HW.out]; show ls.length - ((k + 1 : Nat) : Int).toNat < ls.length - (k : Int).toNat; omega⟩
        · have b1b : decide ((k : Int) < (ls.length : Int)) = false := decide_eq_false (by omega)
          obtain rfl : k = ls.length := by omega
          have hall : NN :: Nd.allL (ls.take ls.length) = NN.all := by rw [HALL.out, List.take_length]
          rw [hall] at HC HMM
          have hmp : 0 < m := by rw [HMM.out, ← hall]; simp
          obtain ⟨g2, cap2, ev, hrw⟩ := row0_all HR.out HM.out hmp Ks rfl (by rw [HC.out.len, HMM.out]) HC.out.five
          rw [HMM.out] at ev hrw
          subst ev
          have HAN : Hid (AllAns w0 wr (.slice (some ⟨g2, 0, none⟩) NN.all.length cap2) NN.all) := Lib.hid ⟨g2, cap2, Ks, rfl, HC.out, hrw⟩
          have HB := Lib.hid HMb.out.below
          clear HM HMb hrw HR HC
          go_wp2_with fail
          exact bodyPost_ret (results_slot rfl rfl) rfl ⟨_, rfl, HAN.out, HB.out⟩
end Go.Proofs.Ytbheiglbejokmaa
