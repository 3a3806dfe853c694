/- append onto a slice of the call's own, in texts of whole rows. No program in it. -/
import Derived.Test.YtdnkpclpcelbaaaDoorPrt
import Derived.Maps.AppendAt
namespace Go.Proofs.YtdnkpclpcelbaaaDoor
set_option maxRecDepth 20000
set_option linter.unusedSimpArgs false
set_option linter.unusedVariables false
open Go.RowKit Go.Sort
/-- A slice of n elements, in a block of cap ones: what is in it, what lies behind. -/
structure RowOk (xs r : List Value) (size n cap : Nat) : Prop where
  len : xs.length = n * size
  all : (xs ++ r).length = cap * size
  le : n ≤ cap
  max : cap ≤ maxLen
section
variable {P : Program} {w w0 w' W : World} {M : List Blk} {o : Oper} {A : Act}
theorem below_all {row : Option Nat} (hg : w.grownBy w' row) (hr : row = none) : Below w.heap.size w w' := by
  subst hr
  exact ⟨hg.os, hg.tape, hg.output, hg.size, fun k hk => hg.block k hk (by simp)⟩
theorem mem_app_nil {e : TypeId} {size m : Nat} {v' : Value} {news : List Value} (hM : Mem w0 M w) (hm : 0 < m) (hown : w'.ownsRow w.heap.size e size v' m news) (hg : w.grownBy w' none) : ∃ g cap r, v' = .slice (some ⟨g, 0, none⟩) m cap ∧ RowOk news r size m cap ∧ Mem w0 ((g, .cells (news ++ r).toArray e (0, 0)) :: M) w' := by
  obtain ⟨hl, h⟩ := hown
  rcases h with ⟨_, h0⟩ | ⟨g, cap, cur, rfl, hb, hh, hn, hmx, hs, ht⟩
  · omega
  · have hc : cur.toList = news ++ cur.toList.drop (m * size) := by rw [← ht, List.take_append_drop]
    have hc2 : cur = (news ++ cur.toList.drop (m * size)).toArray := by rw [← hc, Array.toArray_toList]
    refine ⟨g, cap, cur.toList.drop (m * size), rfl, ⟨hl, by rw [← hc, Array.length_toList]; exact hs, hn, hmx⟩, hM.news1 (below_all hg rfl) hb ?_⟩
    rw [← hc2]
    exact hh
theorem mem_app_row {e : TypeId} {size n m g : Nat} {v' : Value} {xs r news : List Value} (hM : Mem w0 ((g, .cells (xs ++ r).toArray e (0, 0)) :: M) w) (hm : 0 < n + m) (hown : w'.ownsRow w0.heap.size e size v' (n + m) (xs ++ news)) (hg : w.grownBy w' (some g)) (hat : v'.ownBlock = some g ∨ v'.ownBlock = some w.heap.size) : ∃ g' cap' r', v' = .slice (some ⟨g', 0, none⟩) (n + m) cap' ∧ RowOk (xs ++ news) r' size (n + m) cap' ∧ Mem w0 ((g', .cells (xs ++ news ++ r').toArray e (0, 0)) :: M) w' := by
  obtain ⟨hl, h⟩ := hown
  rcases h with ⟨_, h0⟩ | ⟨g', cap', cur, rfl, hb, hh, hn, hmx, hs, ht⟩
  · omega
  · have hc : cur.toList = xs ++ news ++ cur.toList.drop ((n + m) * size) := by rw [← ht, List.take_append_drop]
    have hc2 : cur = (xs ++ news ++ cur.toList.drop ((n + m) * size)).toArray := by rw [← hc, Array.toArray_toList]
    refine ⟨g', cap', cur.toList.drop ((n + m) * size), rfl, ⟨hl, by rw [← hc, Array.length_toList]; exact hs, hn, hmx⟩, ?_⟩
    rw [← hc2]
    have hlow := hM.low (g, .cells (xs ++ r).toArray e (0, 0)) (by simp)
    have hnod := List.pairwise_cons.1 hM.nod
    have hne : ∀ p ∈ M, p.1 ≠ g := fun p hp => (hnod.1 p hp).symm
    have hlt : ∀ p ∈ M, p.1 < w.heap.size := fun p hp => hM.lt (List.mem_cons_of_mem _ hp)
    have hg' : g' = g ∨ g' = w.heap.size := by simpa [Value.ownBlock] using hat
    refine ⟨below_grown hM.below hg hlow, fun p hp => ?_, List.pairwise_cons.2 ⟨fun p hp => ?_, hnod.2⟩, fun p hp => ?_⟩
    · rcases List.mem_cons.1 hp with rfl | hp
      · exact hb
      · exact hM.low p (List.mem_cons_of_mem _ hp)
    · rcases hg' with rfl | rfl
      · exact (hne p hp).symm
      · have := hlt p hp
        omega
    · rcases List.mem_cons.1 hp with rfl | hp
      · exact hh
      · rw [hg.block p.1 (hlt p hp) (by intro e; cases e; exact hne p hp rfl)]
        exact hM.at_ p (List.mem_cons_of_mem _ hp)
theorem news_at {b : Nat} {cs : Array Value} {t : TypeId} {fr : Nat × Nat} (h : w.heap[b]? = some (.cells cs t fr)) : ∀ j u, cs.toList[j]? = some u → w.cell? ((⟨b, 0, none⟩ : Addr).add j) = some u := fun j u hu => by
  have hadd : (⟨b, 0, none⟩ : Addr).add j = ⟨b, j, none⟩ := by unfold Addr.add; split <;> simp_all
  rw [hadd, cell_of_row w b j cs t fr h]
  simpa using hu
variable {ops : Array Oper} {md : Region.Mode} {fuel : Nat} {listed : Array Bool} {Q : Exit → Act → World → Prop} {n : Nat}
/-- append onto nothing. -/
theorem any_app_nil (hr : Region.ready md ops listed = [n]) (hn : ops[n]? = some o) (hM : Mem w0 M w) {s x : Operand} {t : TypeId} (ho : o.op = .call { callee := .builtin .append, args := #[s, x], argTypes := #[t, t] }) (hgd : o.guard = none) {tm : Tmp} (hd : o.dst = some tm) {e : TypeId} {i : TypeInfo} {z : Value} {size bytes : Nat} (ht : P.underlying t = some (.slice e)) (hi : P.info? e = some i) (hz : i.zero = some z)
    (hsize : i.size = size) (hby : i.bytes = bytes) (hzs : z.cells.size = size) (hsz : 0 < size) (hs : A.eval s = .slice none 0 0) {b m c : Nat} {news : List Value} {t' : TypeId} {fr : Nat × Nat} (hx : A.eval x = .slice (some ⟨b, 0, none⟩) m c) (hb : w.heap[b]? = some (.cells news.toArray t' fr)) (hm : 0 < m) (hl : news.length = m * size) (h1 : news.toArray.all (·.oneCell') = true) (h63 : m ≤ maxLen) (hbytes : m * bytes ≤ 140737488355328)
    (hk : ∀ g cap r W, RowOk news r size m cap → Mem w0 ((g, .cells (news ++ r).toArray e (0, 0)) :: M) W → wpAny P md ops Q fuel (listed.setIfInBounds n true) (A.put (some tm) (.slice (some ⟨g, 0, none⟩) m cap)) W) : wpAny P md ops Q (fuel + 1) listed A w :=
  any_one hr hn fun K hK => by
    rw [if_pos (by simp [Region.wanted, hgd])]
    obtain ⟨v', w', hrun, h2, h3, _, _⟩ := run_append_own_at (P := P) w w.heap.size t o.type e i z size bytes ht hi hz hsize hby hzs hsz (.slice none 0 0) 0 [] (World.ownsRow_nil _ _ _ _) ⟨b, 0, none⟩ m c news hl (fun j u hu => news_at hb j u (by simpa using hu)) (fun u hu => by
      have := Array.all_eq_true'.1 h1 u (by simpa using hu)
      exact this) (by omega) (by rw [Nat.zero_add]; exact hbytes) (Nat.le_refl _)
    rw [Nat.zero_add, List.nil_append] at h2
    obtain ⟨g, cap, r, rfl, hok, hM'⟩ := mem_app_nil hM hm h2 h3
    unfold Oper.wp execOp
    simp only [ho, resolve, invoke, builtin, Sem.run_bind, Sem.run_pure, Result.andThen_ok, List.map_toArray, List.map_cons, List.map_nil, hs, hx, hrun]
    have hk2 := hk g cap r w' hok hM'
    rw [← hd] at hk2
    exact hK _ _ hk2
/-- append onto a row of the call's own, which lies first. -/
theorem any_app_row (hr : Region.ready md ops listed = [n]) (hn : ops[n]? = some o) {g cap k : Nat} {xs r : List Value} {e : TypeId} {size : Nat} (hM : Mem w0 ((g, .cells (xs ++ r).toArray e (0, 0)) :: M) w) (hok : RowOk xs r size k cap) {s x : Operand} {t : TypeId} (ho : o.op = .call { callee := .builtin .append, args := #[s, x], argTypes := #[t, t] }) (hgd : o.guard = none) {tm : Tmp} (hd : o.dst = some tm) {i : TypeInfo} {z : Value} {bytes : Nat} (ht : P.underlying t = some (.slice e)) (hi : P.info? e = some i) (hz : i.zero = some z)
    (hsize : i.size = size) (hby : i.bytes = bytes) (hzs : z.cells.size = size) (hsz : 0 < size) (hs : A.eval s = .slice (some ⟨g, 0, none⟩) k cap) {b m c : Nat} {news : List Value} {t' : TypeId} {fr : Nat × Nat} (hx : A.eval x = .slice (some ⟨b, 0, none⟩) m c) (hb : w.heap[b]? = some (.cells news.toArray t' fr)) (hm : 0 < m) (hl : news.length = m * size) (h1 : news.toArray.all (·.oneCell') = true) (h63 : k + m ≤ maxLen) (hbytes : (k + m) * bytes ≤ 140737488355328)
    (hk : ∀ g' cap' r' W, RowOk (xs ++ news) r' size (k + m) cap' → Mem w0 ((g', .cells (xs ++ news ++ r').toArray e (0, 0)) :: M) W → wpAny P md ops Q fuel (listed.setIfInBounds n true) (A.put (some tm) (.slice (some ⟨g', 0, none⟩) (k + m) cap')) W) : wpAny P md ops Q (fuel + 1) listed A w :=
  any_one hr hn fun K hK => by
    rw [if_pos (by simp [Region.wanted, hgd])]
    have hgo := hM.get 0 rfl
    have hlow := hM.low (g, .cells (xs ++ r).toArray e (0, 0)) (by simp)
    obtain ⟨v', w', hrun, h2, h3, _, h5⟩ := run_append_own_at (P := P) w w0.heap.size t o.type e i z size bytes ht hi hz hsize hby hzs hsz (.slice (some ⟨g, 0, none⟩) k cap) k xs ⟨hok.len, .inr ⟨g, cap, _, rfl, hlow, hgo, hok.le, hok.max, by rw [List.size_toArray]; exact hok.all, by rw [← hok.len]; exact List.take_left⟩⟩ ⟨b, 0, none⟩ m c news hl (fun j u hu => news_at hb j u (by simpa using hu)) (fun u hu => by
      have := Array.all_eq_true'.1 h1 u (by simpa using hu)
      exact this) h63 hbytes hM.below.size
    obtain ⟨g', cap', r', rfl, hok', hM'⟩ := mem_app_row hM (by omega) h2 h3 h5
    unfold Oper.wp execOp
    simp only [ho, resolve, invoke, builtin, Sem.run_bind, Sem.run_pure, Result.andThen_ok, List.map_toArray, List.map_cons, List.map_nil, hs, hx, hrun]
    have hk2 := hk g' cap' r' w' hok' hM'
    rw [← hd] at hk2
    exact hK _ _ hk2
end
/-- What was made of a slice, with what lies there. -/
theorem given_mkH {ops : Array Oper} {w : World} {A : Act} {K : Act → Prop} {j : Nat} {t : Tmp} {v0 : Nat → Value} {ob : Obj} {ps : List PkW} (hd : dstOf ops j = some t) (h : ∀ b, w.heap[b]? = some ob → Given ops w ps (A.put (some t) (v0 b)) K) : Given ops w ((j, fun u w' => ∃ b, u = v0 b ∧ w'.heap[b]? = some ob) :: ps) A K := by
  rintro u ⟨b, rfl, hb⟩
  show Given ops w ps (A.put (dstOf ops j) (v0 b)) K
  rw [hd]
  exact h b hb
end Go.Proofs.YtdnkpclpcelbaaaDoor
