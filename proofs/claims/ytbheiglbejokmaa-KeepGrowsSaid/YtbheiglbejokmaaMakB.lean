/- tree.Map (layer 7). -/
import Derived.Test.YtbheiglbejokmaaMakA
namespace Go.Proofs.Ytbheiglbejokmaa
set_option maxRecDepth 20000
set_option linter.unusedSimpArgs false
set_option linter.unusedVariables false
open Go.RowKit Go.Sort Go.Lib
attribute [local go_sem] Oper.semAt_some
/-- A row of the call's own, nil while nothing is in it. -/
inductive Row0 (T : TypeId) (size : Nat) : Value → Nat → List Value → List Blk → Prop
  | nil : Row0 T size (.slice none 0 0) 0 [] []
  | own {g cap n : Nat} {xs r : List Value} (ok : RowOk xs r size n cap) : Row0 T size (.slice (some ⟨g, 0, none⟩) n cap) n xs [(g, .cells (xs ++ r).toArray T (0, 0))]
theorem Row0.one {T : TypeId} {size n : Nat} {v : Value} {xs : List Value} {B : List Blk} (h : Row0 T size v n xs B) : v.oneCell' = true := by cases h <;> rfl
section
variable {P : Program} {w w0 : World} {M : List Blk} {o : Oper} {A : Act} {ops : Array Oper} {md : Region.Mode} {Q : Exit → Act → World → Prop} {S : World → Prop} {st n fuel : Nat} {l : Array Bool}
theorem hop_new {d : Tmp} {f : Nat → Value} {ob : Obj} (hn : ops[n]? = some o) (hdd : o.dst = some d) (hgd : o.guard = none) (hM : Mem w0 M w) (h : ∀ W, (execOp A.eval o).run P W = .ok (.value (f W.heap.size)) (W.alloc ob)) (L : Array Bool) (hL : l.setIfInBounds n true = L) (hk : ∀ b W, Mem w0 ((b, ob) :: M) W → S W ∧ Hold P md ops Q S st fuel L (A.put (some d) (f b)) W) :
    Go.wpOp P ops Q n (fun a' w' => ((l.setIfInBounds n true).getD st true = false → S w') ∧ Hold P md ops Q S st fuel (l.setIfInBounds n true) a' w') A w := by
  unfold Go.wpOp
  simp only [hn]
  rw [if_pos (by simp [Region.wanted, hgd])]
  refine .inl ?_
  unfold Oper.wp
  rw [h, hL]
  show (_ → S _) ∧ Hold P md ops Q S st fuel L (A.put o.dst _) _
  rw [hdd]
  obtain ⟨h1, h2⟩ := hk _ _ (hM.new1 ob)
  exact ⟨fun _ => h1, h2⟩
theorem hop_app {d : Tmp} (hn : ops[n]? = some o) (hdd : o.dst = some d) (hgd : o.guard = none) {B : List Blk} (hM : Mem w0 (B ++ M) w) {v : Value} {e : TypeId} {size k : Nat} {xs : List Value} (hR : Row0 e size v k xs B) {s x : Operand} {t : TypeId} (ho : o.op = .call { callee := .builtin .append, args := #[s, x], argTypes := #[t, t] }) {i : TypeInfo} {z : Value} {bytes : Nat} (ht : P.underlying t = some (.slice e)) (hi : P.info? e = some i) (hz : i.zero = some z)
    (hsize : i.size = size) (hby : i.bytes = bytes) (hzs : z.cells.size = size) (hsz : 0 < size) (hs : A.eval s = v) {b m c : Nat} {news : List Value} {t' : TypeId} {fr : Nat × Nat} (hx : A.eval x = .slice (some ⟨b, 0, none⟩) m c) (hb : w.heap[b]? = some (.cells news.toArray t' fr)) (hm : 0 < m) (hl : news.length = m * size) (h1 : news.toArray.all (·.oneCell') = true) (h63 : k + m ≤ maxLen) (hbytes : (k + m) * bytes ≤ 140737488355328)
    (L : Array Bool) (hL : l.setIfInBounds n true = L) (hk : ∀ v' B' W, Row0 e size v' (k + m) (xs ++ news) B' → Mem w0 (B' ++ M) W → S W ∧ Hold P md ops Q S st fuel L (A.put (some d) v') W) :
    Go.wpOp P ops Q n (fun a' w' => ((l.setIfInBounds n true).getD st true = false → S w') ∧ Hold P md ops Q S st fuel (l.setIfInBounds n true) a' w') A w := by
  unfold Go.wpOp
  simp only [hn]
  rw [if_pos (by simp [Region.wanted, hgd])]
  refine .inl ?_
  rw [hL]
  have hone : ∀ u ∈ news, u.oneCell' = true := fun u hu => Array.all_eq_true'.1 h1 u (by simpa using hu)
  have hnw := news_at hb
  cases hR with
  | nil =>
    obtain ⟨v', w', hrun, h2, h3, _, _⟩ := run_append_own_at (P := P) w w.heap.size t o.type e i z size bytes ht hi hz hsize hby hzs hsz (.slice none 0 0) 0 [] (World.ownsRow_nil _ _ _ _) ⟨b, 0, none⟩ m c news hl (fun j u hu => hnw j u (by simpa using hu)) hone (by omega) (by rw [Nat.zero_add]; simpa using hbytes) (Nat.le_refl _)
    rw [Nat.zero_add, List.nil_append] at h2
    obtain ⟨g, cap, r, rfl, hok, hM'⟩ := mem_app_nil hM hm h2 h3
    unfold Oper.wp execOp
    simp only [ho, resolve, invoke, builtin, Sem.run_bind, Sem.run_pure, Result.andThen_ok, List.map_toArray, List.map_cons, List.map_nil, hs, hx, hrun]
    obtain ⟨k1, k2⟩ := hk (.slice (some ⟨g, 0, none⟩) m cap) _ w' (by rw [Nat.zero_add, List.nil_append]; exact .own hok) (by simpa using hM')
    show (_ → S _) ∧ Hold P md ops Q S st fuel L (A.put o.dst _) _
    rw [hdd]
    exact ⟨fun _ => k1, k2⟩
  | @own g cap _ _ r hok =>
    have hM2 : Mem w0 ((g, .cells (xs ++ r).toArray e (0, 0)) :: M) w := hM
    have hgo := hM2.get 0 rfl
    have hlow := hM2.low (g, .cells (xs ++ r).toArray e (0, 0)) (by simp)
    obtain ⟨v', w', hrun, h2, h3, _, h5⟩ := run_append_own_at (P := P) w w0.heap.size t o.type e i z size bytes ht hi hz hsize hby hzs hsz (.slice (some ⟨g, 0, none⟩) k cap) k xs ⟨hok.len, .inr ⟨g, cap, _, rfl, hlow, hgo, hok.le, hok.max, by rw [List.size_toArray]; exact hok.all, by rw [← hok.len]; exact List.take_left⟩⟩ ⟨b, 0, none⟩ m c news hl (fun j u hu => hnw j u (by simpa using hu)) hone h63 hbytes hM2.below.size
    obtain ⟨g', cap', r', rfl, hok', hM'⟩ := mem_app_row hM2 (by omega) h2 h3 h5
    unfold Oper.wp execOp
    simp only [ho, resolve, invoke, builtin, Sem.run_bind, Sem.run_pure, Result.andThen_ok, List.map_toArray, List.map_cons, List.map_nil, hs, hx, hrun]
    obtain ⟨k1, k2⟩ := hk _ _ w' (.own hok') hM'
    show (_ → S _) ∧ Hold P md ops Q S st fuel L (A.put o.dst _) _
    rw [hdd]
    exact ⟨fun _ => k1, k2⟩
theorem hop_setat (hn : ops[n]? = some o) (hdd : o.dst = none) (hgd : o.guard = none) (hM : Mem w0 M w) (i : Nat) {ty : TypeId} {x y : Operand} {b off : Nat} {t : TypeId} {cs cs' : Array Value} {v : Value} (ho : o.op = .store ty x y) (hx : A.eval x = .pointer (some ⟨b, off, none⟩)) (hy : A.eval y = v) (hi : M[i]? = some (b, .cells cs t (0, 0))) (hl : off < cs.size) (hc : cs.setIfInBounds off v = cs') (hT : CellTy P ty) (h1 : v.oneCell' = true) (L : Array Bool) (hL : l.setIfInBounds n true = L) (hst : L.getD st true = true)
    (hk : ∀ W, Mem w0 (M.set i (b, .cells cs' t (0, 0))) W → Hold P md ops Q S st fuel L A W) : Go.wpOp P ops Q n (fun a' w' => ((l.setIfInBounds n true).getD st true = false → S w') ∧ Hold P md ops Q S st fuel (l.setIfInBounds n true) a' w') A w := by
  unfold Go.wpOp
  simp only [hn]
  rw [if_pos (by simp [Region.wanted, hgd])]
  refine .inl (wp_setat hM i ho hx hy hi hl hc hT h1 fun W hW => ?_)
  rw [hdd, hL]
  exact ⟨fun h => (by rw [hst] at h; cases h), hk W hW⟩
end
theorem keysOf_at : ∀ (Ns : List Nd), keysOf Ns = (List.range (Ns.length / 2)).map (fun i => (Ns.getD (2 * i) zeroNd).str) ∧ valsOf Ns = (List.range (Ns.length / 2)).map (fun i => Ns.getD (2 * i + 1) zeroNd)
  | [] => ⟨rfl, rfl⟩
  | [_] => by simp [keysOf, valsOf]
  | k :: v :: r => by
    obtain ⟨h1, h2⟩ := keysOf_at r
    have e : (k :: v :: r).length / 2 = r.length / 2 + 1 := by simp; omega
    rw [e, List.range_succ_eq_map, List.map_cons, List.map_cons, List.map_map, List.map_map]
    constructor
    · show k.str :: keysOf r = _
      rw [h1]
      congr 1
    · show v :: valsOf r = _
      rw [h2]
      congr 1
def kStr (Ns : List Nd) (k : Nat) : List Value := (List.range k).map fun i => .string (Ns.getD (2 * i) zeroNd).str
def kNd (kid : Nat → List Value) (k : Nat) : List Value := (List.range k).flatMap fun i => kid (2 * i + 1)
theorem kNd_len (kid : Nat → List Value) (n : Nat) (h5 : ∀ i, i < n → (kid (2 * i + 1)).length = 5) : (kNd kid n).length = n * 5 := by
  induction n with
  | zero => rfl
  | succ n ih =>
    have e : kNd kid (n + 1) = kNd kid n ++ kid (2 * n + 1) := by simp [kNd, List.range_succ]
    rw [e, List.length_append, ih (fun i hi => h5 i (by omega)), h5 n (by omega), Nat.succ_mul]
theorem kNd_get (kid : Nat → List Value) (n : Nat) (h5 : ∀ i, i < n → (kid (2 * i + 1)).length = 5) (i j : Nat) (hi : i < n) (hj : j < 5) : (kNd kid n)[i * 5 + j]? = (kid (2 * i + 1))[j]? := by
  induction n with
  | zero => omega
  | succ n ih =>
    have e : kNd kid (n + 1) = kNd kid n ++ kid (2 * n + 1) := by simp [kNd, List.range_succ]
    have hl := kNd_len kid n (fun i hi => h5 i (by omega))
    rw [e]
    rcases Nat.lt_or_ge i n with h | h
    · rw [List.getElem?_append_left (by omega), ih (fun i hi => h5 i (by omega)) h]
    · obtain rfl : i = n := by omega
      rw [List.getElem?_append_right (by omega), hl]
      congr 1
      omega
theorem kStr_succ (Ns : List Nd) (k : Nat) : kStr Ns k ++ [.string (Ns.getD (2 * k) zeroNd).str] = kStr Ns (k + 1) := by simp [kStr, List.range_succ]
theorem kNd_succ (kid : Nat → List Value) (k : Nat) : kNd kid k ++ kid (2 * k + 1) = kNd kid (k + 1) := by simp [kNd, List.range_succ]
theorem Try.info_str : (Try.prog.info? 9).map (fun i => (i.zero, i.size, i.bytes)) = some (some (.string ByteArray.empty), 1, 16) := by kernel_rfl
theorem Try.info_nd : (Try.prog.info? 25).map (fun i => (i.zero, i.size, i.bytes)) = some (some (.agg zeroC.toArray), 5, 80) := by kernel_rfl
theorem fl_3 (b : Nat) (W : World) : (Instr.fieldAt 25 (.pointer (some ⟨b, 0, none⟩)) 3).run Try.prog W = .ok (.pointer (some ⟨b, 3, none⟩)) W := by kernel_rfl
theorem fl_2o (b off : Nat) (W : World) : (Instr.fieldAt 25 (.pointer (some ⟨b, off, none⟩)) 2).run Try.prog W = .ok (.pointer (some ⟨b, off + 2, none⟩)) W := by kernel_rfl
theorem cellStrs : CellTy Try.prog 22 := ⟨⟨_, Try.underlying22, rfl⟩, by kernel_rfl⟩
theorem bs_str (s : ByteArray) (W : World) : (Instr.buildSlice 22 1 #[(0, .string s)]).run Try.prog W = .ok (.slice (some ⟨W.heap.size, 0, none⟩) 1 1) (W.alloc (.cells #[.string s] 9 (0, 0))) := by go_simp
theorem bs_nd (ca : Array Value) (h : ca.size = 5) (W : World) : (Instr.buildSlice 23 1 #[(0, .agg ca)]).run Try.prog W = .ok (.slice (some ⟨W.heap.size, 0, none⟩) 1 1) (W.alloc (.cells ca 25 (0, 0))) := by
  obtain ⟨a, b, c, d, e, rfl⟩ : ∃ a b c d e, ca = #[a, b, c, d, e] := by
    obtain ⟨l⟩ := ca
    match l, h with
    | [a, b, c, d, e], _ => exact ⟨a, b, c, d, e, rfl⟩
  go_simp
theorem run_load_c {P : Program} {w : World} {o : Oper} {A : Act} {ty : TypeId} {x : Operand} {b off : Nat} {v : Value} (ho : o.op = .load ty x) (hx : A.eval x = .pointer (some ⟨b, off, none⟩)) (hc : w.cell? ⟨b, off, none⟩ = some v) (hT : CellTy P ty) : (execOp A.eval o).run P w = .ok (.value v) w := by
  obtain ⟨⟨d, hu, hd⟩, _⟩ := hT
  have hagg : (isAgg ty).run P w = .ok false w := by
    unfold isAgg
    rw [Sem.run_bind, run_underlying hu w]
    cases d <;> first | rfl | cases hd
  have hl : (loadVar ty ⟨b, off, none⟩).run P w = .ok v w := by
    unfold loadVar
    rw [Sem.run_bind, hagg]
    simp [hc]
  unfold execOp
  simp only [ho, hx, Instr.loadAt, Instr.sureAddr, Sem.run_bind, Sem.run_pure, Result.andThen_ok, hl]
theorem isNd_str {w : World} {cs : List Value} {N : Nd} (h : IsNd w cs N) : cs.toArray.toList[2]? = some (.string N.str) := by cases h; rfl
theorem isNd_strlen {w : World} {cs : List Value} {N : Nd} (h : IsNd w cs N) : N.str.size ≤ maxLen := by cases h; assumption
theorem isNd_len2 {w : World} {cs : List Value} {N : Nd} (h : IsNd w cs N) : cs.length = 5 := by cases h; rfl
theorem row0_strs {w0 w : World} {T : TypeId} {v : Value} {n : Nat} {xs : List Value} {B M M' : List Blk} (h : Row0 T 1 v n xs B) (hp : M'.Perm (B ++ M)) (hM : Mem w0 M' w) (k : Nat) (f : Nat → ByteArray) (hn : n = k) (hx : xs = (List.range k).map (fun i => .string (f i))) (hs : ∀ i, i < k → (f i).size ≤ maxLen) (hk : k ≤ maxLen) :
    ∃ a len cap, v = .slice a len cap ∧ IsStrs w a len ((List.range k).map f) := by
  subst hn hx
  cases h with
  | nil => exact ⟨none, 0, 0, rfl, rfl, Nat.zero_le _, by simp, ⟨fun h => absurd h (by omega)⟩⟩
  | @own g cap _ _ r ok =>
    have hg := (hM.perm hp.symm).get 0 rfl
    refine ⟨some ⟨g, 0, none⟩, n, cap, rfl, by simp, hk, fun s h => ?_, ⟨fun h0 => ⟨g, 0, rfl, (Array.getElem?_eq_some_iff.1 hg).1, fun i hi => ⟨rfl, fun j hj => ?_⟩⟩⟩⟩
    · obtain ⟨i, hi, rfl⟩ := List.mem_map.1 h
      exact hs i (List.mem_range.1 hi)
    · obtain rfl : j = 0 := by omega
      rw [cell_of_row w g _ _ T (0, 0) hg]
      simp [hi, List.getElem?_append_left]
theorem row0_nds {w0 w : World} {T : TypeId} {v : Value} {n : Nat} {xs : List Value} {B M : List Blk} (h : Row0 T 5 v n xs B) (hM : Mem w0 (B ++ M) w) (k : Nat) (kid : Nat → List Value) (hn : n = k) (hx : xs = kNd kid k) (h5 : ∀ i, i < k → (kid (2 * i + 1)).length = 5) :
    ∃ a cap, v = .slice a k cap ∧ RowAt w a k 5 (fun i => kid (2 * i + 1)) := by
  subst hn hx
  cases h with
  | nil => exact ⟨none, 0, rfl, ⟨fun h => absurd h (by omega)⟩⟩
  | @own g cap _ _ r ok =>
    have hg := hM.get 0 rfl
    refine ⟨some ⟨g, 0, none⟩, cap, rfl, ⟨fun h0 => ⟨g, 0, rfl, (Array.getElem?_eq_some_iff.1 hg).1, fun i hi => ⟨h5 i hi, fun j hj => ?_⟩⟩⟩⟩
    rw [cell_of_row w g _ _ T (0, 0) hg, Nat.zero_add]
    have e := kNd_get kid n h5 i j hi hj
    rw [← e]
    have hl : i * 5 + j < (kNd kid n).length := by
      rcases Nat.lt_or_ge (i * 5 + j) (kNd kid n).length with h | h
      · exact h
      · rw [List.getElem?_eq_none h] at e
        rw [List.getElem?_eq_getElem (by rw [h5 i hi]; exact hj)] at e
        cases e
    simp [List.getElem?_append_left hl]
theorem perm_m (A B : List Blk) (x y : Blk) : (x :: y :: (A ++ B)).Perm (A ++ (B ++ [x, y])) := by
  rw [← List.append_assoc]
  exact List.perm_append_comm (l₁ := [x, y])
theorem one5 {a b c d e : Value} (h1 : a.oneCell' = true) (h2 : b.oneCell' = true) (h3 : c.oneCell' = true) (h4 : d.oneCell' = true) (h5 : e.oneCell' = true) : #[a, b, c, d, e].all (·.oneCell') = true := by simp [h1, h2, h3, h4, h5]
theorem ix_L0 (b off len cap : Nat) (hi : 0 < len) (W : World) : (Instr.indexAt 23 (.slice (some ⟨b, off, none⟩) len cap) (.int .i64 0)).run Try.prog W = .ok (.pointer (some ⟨b, off, none⟩)) W := by
  have h := ix_L b off len cap 0 hi W
  simpa using h
theorem ix_L1 (b off len cap : Nat) (hi : 1 < len) (W : World) : (Instr.indexAt 23 (.slice (some ⟨b, off, none⟩) len cap) (.int .i64 1)).run Try.prog W = .ok (.pointer (some ⟨b, off + 5, none⟩)) W := by
  have h := ix_L b off len cap 1 hi W
  simpa using h
def sliceLen : Value → Nat
  | .slice _ n _ => n
  | _ => 0
set_option maxRecDepth 100000 in
set_option maxHeartbeats 4000000 in
theorem map_any (w : World) (a : Option Addr) (len cap : Nat) (kid : Nat → List Value) (Ns : List Nd) (h : IsNds w a len kid Ns) (hmx : len ≤ 1000) (hcap : len ≤ cap) :
    Calls Try.prog 35 #[.slice a len cap] w fun e w' => ∃ cs, IsNd w' cs (.mk 6 0 ByteArray.empty (keysOf Ns) (valsOf Ns)) ∧ e = .returned (.agg cs.toArray) ∧ Below w.heap.size w w' := by
  obtain ⟨i0, hi, hz0, hz1, hz2⟩ := info_parts Try.info_str
  obtain ⟨i1, hj, hy0, hy1, hy2⟩ := info_parts Try.info_nd
  have H := Lib.hid h
  clear h
  have HMIX := Lib.hid (show Try.prog.follows .mixedOrders = true by kernel_rfl)
  have hM0 := Mem.start w
  go_enter Try.func35, Try.ntmps35
  go_upto_region 0 with fail
  refine wp_region_lit ?_
  refine wl_new hM0 (f := fun b => .pointer (some ⟨b, 0, none⟩)) (fun W => run_alloc_of rfl (al_Nd W)) rfl fun b2 W1 hM1 => ?_
  simp only [nm0, nm1, nm2, nm3]
  refine wpList_nil ?_
  go_upto_region 1 with fail
  refine wp_region_lit ?_
  refine wl_pure (v := .agg #[.int .i64 6, .int .i64 0, .string ByteArray.empty, .slice none 0 0, .slice none 0 0]) (fun W => run_build_of (ps := #[(0, .int .i64 6)]) rfl (by simp [Act.eval]) (bd_NdM W)) rfl ?_
  simp only [nm0, nm1, nm2, nm3]
  refine wl_new hM1 (f := fun b => .pointer (some ⟨b, 0, none⟩)) (fun W => run_alloc_of rfl (al_Nd W)) rfl fun b3 W2 hM2 => ?_
  simp only [nm0, nm1, nm2, nm3]
  refine wl_set hM2 0 (cs := #[.int .i64 6, .int .i64 0, .string ByteArray.empty, .slice none 0 0, .slice none 0 0]) rfl rfl rfl rfl rowNd rfl (by simp [Value.oneCell']) rfl rfl fun W3 hM3 => ?_
  simp only [nm2, nm3] at hM3
  refine wpList_nil ?_
  have HM3 := Lib.hid hM3
  clear hM0 hM1 hM2 hM3
  go_wp2_with fail
  go_loopw [0] (fun v0 wr => ∃ (k q qc : Nat) (a' : Option Addr) (vK vL : Value) (BK BL : List Blk), v0 = .slice a' q qc ∧ 2 * k + q = len ∧ q ≤ qc ∧ Hid (0 < q → ∃ b off, a = some ⟨b, off, none⟩ ∧ a' = some ⟨b, off + k * 10, none⟩) ∧ Hid (Row0 9 1 vK k (kStr Ns k) BK) ∧ Hid (Row0 25 5 vL k (kNd kid k) BL) ∧ Hid (Mem w (BK ++ (BL ++ [(b3, .cells #[.int .i64 6, .int .i64 0, .string ByteArray.empty, vK, vL] 25 (0, 0)), (b2, .cells zeroC.toArray 25 (0, 0))])) wr)) (fun v _ => sliceLen v)
  case atStart =>
    exact ⟨0, len, cap, a, _, _, [], [], rfl, by omega, hcap, Lib.hid (fun h0 => by
      obtain ⟨b, off, e, _⟩ := H.out.row.at_ h0
      exact ⟨b, off, e, by rw [e, Nat.zero_mul, Nat.add_zero]⟩), Lib.hid .nil, Lib.hid .nil, HM3⟩
  case round =>
    obtain ⟨k, q, qc, a', vK, vL, BK, BL, rfl, hkq, hqc, HA, HK, HL, HM⟩ := hrel
    clear HM3
    by_cases hlt : 1 < q
    · have b1 : decide ((q : Int) > 1) = true := decide_eq_true (by omega)
      obtain ⟨b, off, rfl, rfl⟩ := HA.out (by omega)
      go_upto_region 4 with fail
      have hq : 2 * k + 1 < Ns.length := by rw [H.out.len_]; omega
      have hN0 := H.out.kids (2 * k) (by omega)
      have hN1 := H.out.kids (2 * k + 1) hq
      have e0 : Ns.getD (2 * k) zeroNd = Ns[2 * k] := by simp [show 2 * k < Ns.length from by omega]
      obtain ⟨st, est⟩ : ∃ z, z = (Ns.getD (2 * k) zeroNd).str := ⟨_, rfl⟩
      have hrow0 := H.out.row.cells (i := 2 * k) (by omega)
      have hrow1 := H.out.row.cells (i := 2 * k + 1) (by omega)
      have hs0 : w.cell? ⟨b, off + k * 10 + 2, none⟩ = some (.string st) := by
        have h1 := hrow0 2 (.string st) (by rw [est, e0]; exact isNd_str hN0)
        rw [show off + k * 10 + 2 = off + 2 * k * 5 + 2 from by omega]
        exact h1
      obtain ⟨kx, ekx⟩ : ∃ z, z = (kid (2 * k + 1)).toArray := ⟨_, rfl⟩
      have h5 : kx.size = 5 := by rw [ekx]; exact isNd_len hN1
      have h1k : kx.all (·.oneCell') = true := by rw [ekx]; exact isNd_one hN1
      have hs1 : ∀ j v, kx.toList[j]? = some v → w.cell? ⟨b, off + k * 10 + 5 + j, none⟩ = some v := fun j v hv => by
        have h1 := hrow1 j v (by rw [← ekx]; exact hv)
        rw [show off + k * 10 + 5 + j = off + (2 * k + 1) * 5 + j from by omega]
        exact h1
      obtain ⟨bb, ebb, hbl, _⟩ : ∃ bb, bb = b ∧ b < w.heap.size ∧ True := by
        obtain ⟨b', o', e, hb, _⟩ := H.out.row.at_ (by omega)
        cases e
        exact ⟨b, rfl, hb, trivial⟩
      clear ebb bb hrow0 hrow1 hN0 hN1 HA
      have EST := Lib.hid est
      have EKX := Lib.hid ekx
      clear est e0 ekx
      have hKone := HK.out.one
      have hLone := HL.out.one
      have hMd := HM.out.drew
      obtain ⟨mx, emx⟩ : ∃ z : Array Value, z = #[.int .i64 6, .int .i64 0, .string ByteArray.empty, vK, vL] := ⟨_, rfl⟩
      have hS : ∀ W, Mem w (BK ++ (BL ++ [(b3, .cells #[.int .i64 6, .int .i64 0, .string ByteArray.empty, vK, vL] 25 (0, 0)), (b2, .cells zeroC.toArray 25 (0, 0))])) W → W.heap[b3]? = some (.cells #[.int .i64 6, .int .i64 0, .string ByteArray.empty, vK, vL] 25 (0, 0)) ∧ Below w.heap.size w W := fun W hW => ⟨hW.at_ (b3, _) (by simp), hW.below⟩
      clear emx mx
      refine wp_region_cut (Q' := fun e A1 w1 => e = .normal ∧ ∃ (x16 x23 vK2 vL2 : Value) (BK2 BL2 : List Blk), A1 = { tmps := #[.slice (some ⟨b, off + k * 10, none⟩) q qc, undef, .pointer (some ⟨b2, 0, none⟩), .pointer (some ⟨b3, 0, none⟩), .agg #[.int .i64 6, .int .i64 0, .string ByteArray.empty, .slice none 0 0, .slice none 0 0], .slice (some ⟨b, off + k * 10, none⟩) q qc, .int .i64 (q : Int), .bool true, u8, u9, .pointer (some ⟨b3, 3, none⟩), vK, .slice (some ⟨b, off + k * 10, none⟩) q qc, .pointer (some ⟨b, off + k * 10, none⟩), .pointer (some ⟨b, off + k * 10 + 2, none⟩), .string st, x16, vK2, .pointer (some ⟨b3, 4, none⟩), vL, .slice (some ⟨b, off + k * 10, none⟩) q qc, .pointer (some ⟨b, off + k * 10 + 5, none⟩), .agg kx, x23, vL2, .pointer (some ⟨b3, 3, none⟩), .pointer (some ⟨b3, 4, none⟩), undef], defers := [] } ∧ Row0 9 1 vK2 (k + 1) (kStr Ns (k + 1)) BK2 ∧ Row0 25 5 vL2 (k + 1) (kNd kid (k + 1)) BL2 ∧ Mem w (BK2 ++ (BL2 ++ [(b3, .cells #[.int .i64 6, .int .i64 0, .string ByteArray.empty, vK2, vL2] 25 (0, 0)), (b2, .cells zeroC.toArray 25 (0, 0))])) w1) ?_ ?_
      rotate_left
      skip
      · skip
        refine wp_region_noPanic (hold_begin (S := fun W => W.heap[b3]? = some (.cells #[.int .i64 6, .int .i64 0, .string ByteArray.empty, vK, vL] 25 (0, 0)) ∧ Below w.heap.size w W) (st := 16) HMIX.out ?_)
        change Hold _ _ _ _ _ _ 19 _ _ _
        generalize wr.drew = wd at hMd ⊢
        have hSd := hS wd hMd
        skip
        refine hl_pure 0 10 #[true, false, false, false, false, false, false, false, false, false, false, false, false, false, false, false, false, false, false] (by kernel_rfl) (v := .pointer (some ⟨b3, 3, none⟩)) rfl rfl (by kernel_rfl) rfl (by kernel_rfl) (by kernel_rfl) rfl (fun W => run_field_of rfl rfl (fl_3 _ W)) hSd ?_
        simp only [nm0, nm1, nm2, nm3]
        refine hl_take 1 11 [16] #[true, true, false, false, false, false, false, false, false, false, false, false, false, false, false, false, false, false, false] (by kernel_rfl) (v := vK) rfl rfl (by kernel_rfl) (by kernel_rfl) (by kernel_rfl) (by kernel_rfl) (by kernel_rfl) (by kernel_rfl) rfl (fun W hW => run_load_cell rfl rfl hW.1 rfl cellStrs) hSd ?_
        simp only [nm0, nm1, nm2, nm3]
        refine hl_pure 2 12 #[true, true, true, false, false, false, false, false, false, false, false, false, false, false, false, false, false, false, false] (by kernel_rfl) (v := .slice (some ⟨b, off + k * 10, none⟩) q qc) rfl rfl (by kernel_rfl) rfl (by kernel_rfl) (by kernel_rfl) rfl (fun W => rfl) hSd ?_
        simp only [nm0, nm1, nm2, nm3]
        refine hl_pure 3 13 #[true, true, true, true, false, false, false, false, false, false, false, false, false, false, false, false, false, false, false] (by kernel_rfl) (v := .pointer (some ⟨b, off + k * 10, none⟩)) rfl rfl (by kernel_rfl) rfl (by kernel_rfl) (by kernel_rfl) rfl (fun W => run_index_of rfl rfl rfl (ix_L0 b (off + k * 10) q qc (by omega) W)) hSd ?_
        simp only [nm0, nm1, nm2, nm3]
        refine hl_pure 4 14 #[true, true, true, true, true, false, false, false, false, false, false, false, false, false, false, false, false, false, false] (by kernel_rfl) (v := .pointer (some ⟨b, off + k * 10 + 2, none⟩)) rfl rfl (by kernel_rfl) rfl (by kernel_rfl) (by kernel_rfl) rfl (fun W => run_field_of rfl rfl (fl_2o _ _ W)) hSd ?_
        simp only [nm0, nm1, nm2, nm3]
        refine hl_take 5 15 [16] #[true, true, true, true, true, true, false, false, false, false, false, false, false, false, false, false, false, false, false] (by kernel_rfl) (v := .string st) rfl rfl (by kernel_rfl) (by kernel_rfl) (by kernel_rfl) (by kernel_rfl) (by kernel_rfl) (by kernel_rfl) rfl (fun W hW => run_load_c rfl rfl ((hW.2.cell (p := ⟨b, off + k * 10 + 2, none⟩) hbl).trans hs0) cellS) hSd ?_
        simp only [nm0, nm1, nm2, nm3]
        refine hl_pure 8 18 #[true, true, true, true, true, true, false, false, true, false, false, false, false, false, false, false, false, false, false] (by kernel_rfl) (v := .pointer (some ⟨b3, 4, none⟩)) rfl rfl (by kernel_rfl) rfl (by kernel_rfl) (by kernel_rfl) rfl (fun W => run_field_of rfl rfl (fl_L _ W)) hSd ?_
        simp only [nm0, nm1, nm2, nm3]
        refine hl_take 9 19 [16] #[true, true, true, true, true, true, false, false, true, true, false, false, false, false, false, false, false, false, false] (by kernel_rfl) (v := vL) rfl rfl (by kernel_rfl) (by kernel_rfl) (by kernel_rfl) (by kernel_rfl) (by kernel_rfl) (by kernel_rfl) rfl (fun W hW => run_load_cell rfl rfl hW.1 rfl cellKs) hSd ?_
        simp only [nm0, nm1, nm2, nm3]
        refine hl_pure 10 20 #[true, true, true, true, true, true, false, false, true, true, true, false, false, false, false, false, false, false, false] (by kernel_rfl) (v := .slice (some ⟨b, off + k * 10, none⟩) q qc) rfl rfl (by kernel_rfl) rfl (by kernel_rfl) (by kernel_rfl) rfl (fun W => rfl) hSd ?_
        simp only [nm0, nm1, nm2, nm3]
        refine hl_pure 11 21 #[true, true, true, true, true, true, false, false, true, true, true, true, false, false, false, false, false, false, false] (by kernel_rfl) (v := .pointer (some ⟨b, off + k * 10 + 5, none⟩)) rfl rfl (by kernel_rfl) rfl (by kernel_rfl) (by kernel_rfl) rfl (fun W => run_index_of rfl rfl rfl (ix_L1 b (off + k * 10) q qc (by omega) W)) hSd ?_
        simp only [nm0, nm1, nm2, nm3]
        refine hl_take 12 22 [13, 14, 16] #[true, true, true, true, true, true, false, false, true, true, true, true, true, false, false, false, false, false, false] (by kernel_rfl) (v := .agg kx) rfl rfl (by kernel_rfl) (by kernel_rfl) (by kernel_rfl) (by kernel_rfl) (by kernel_rfl) (by kernel_rfl) rfl (fun W hW => run_load_cs rfl rfl (fun j v hv => (hW.2.cell (p := ⟨b, off + k * 10 + 5 + j, none⟩) hbl).trans (hs1 j v hv)) (by rw [h5]; exact rowNd)) hSd ?_
        simp only [nm0, nm1, nm2, nm3]
        have hMd : Mem w (BK ++ (BL ++ ([(b3, .cells #[.int .i64 6, .int .i64 0, .string ByteArray.empty, vK, vL] 25 (0, 0))] ++ ([(b2, .cells zeroC.toArray 25 (0, 0))])))) wd := hMd
        refine hold_next (rs := [6, 13]) (by kernel_rfl) (by simp) ?_
        intro i hi
        simp only [List.mem_cons, List.not_mem_nil, or_false] at hi
        rcases hi with rfl | rfl
        · skip
          refine hop_new (d := 16) (f := fun b => .slice (some ⟨b, 0, none⟩) 1 1) (ob := .cells #[.string st] 9 (0, 0)) rfl rfl rfl hMd (fun W => run_slice_of rfl (by simp [Act.eval]) (bs_str st W)) #[true, true, true, true, true, true, true, false, true, true, true, true, true, false, false, false, false, false, false] (by kernel_rfl) fun s1_1 Wx1 hX1 => ⟨⟨hX1.at_ (b3, _) (by simp), hX1.below⟩, ?_⟩
          simp only [nm0, nm1, nm2, nm3]
          have hX1 : Mem w ([(s1_1, .cells #[.string st] 9 (0, 0))] ++ (BK ++ (BL ++ ([(b3, .cells #[.int .i64 6, .int .i64 0, .string ByteArray.empty, vK, vL] 25 (0, 0))] ++ ([(b2, .cells zeroC.toArray 25 (0, 0))]))))) Wx1 := hX1
          refine hold_next (rs := [7, 13]) (by kernel_rfl) (by simp) ?_
          intro i hi
          simp only [List.mem_cons, List.not_mem_nil, or_false] at hi
          rcases hi with rfl | rfl
          · skip
            have hP3 : Mem w ([(s1_1, .cells #[.string st] 9 (0, 0))] ++ (BK ++ (BL ++ ([(b3, .cells #[.int .i64 6, .int .i64 0, .string ByteArray.empty, vK, vL] 25 (0, 0))] ++ ([(b2, .cells zeroC.toArray 25 (0, 0))]))))) Wx1 := Mem.perm hX1 (List.Perm.refl _)
            have hP4 : Mem w (BK ++ ([(s1_1, .cells #[.string st] 9 (0, 0))] ++ (BL ++ ([(b3, .cells #[.int .i64 6, .int .i64 0, .string ByteArray.empty, vK, vL] 25 (0, 0))] ++ ([(b2, .cells zeroC.toArray 25 (0, 0))]))))) Wx1 := Mem.perm hP3 (List.perm_append_comm_assoc _ _ _)
            refine hop_app (d := 17) rfl rfl rfl hP4 HK.out rfl Try.underlying22 hi hz0 hz1 hz2 rfl (by decide) rfl (news := [.string st]) rfl (Mem.at_ hP3 (s1_1, .cells #[.string st] 9 (0, 0)) (by simp)) (by decide) rfl (by simp [Value.oneCell']) (by unfold maxLen; omega) (by omega) #[true, true, true, true, true, true, true, true, true, true, true, true, true, false, false, false, false, false, false] (by kernel_rfl) fun vK2 BK2 Wx2 hK2 hX2 => ⟨⟨hX2.at_ (b3, _) (by simp), hX2.below⟩, ?_⟩
            simp only [nm0, nm1, nm2, nm3]
            have hK3 : Row0 9 1 vK2 (k + 1) (kStr Ns (k + 1)) BK2 := by rw [← kStr_succ, ← EST.out]; exact hK2
            refine hl_pure 15 25 #[true, true, true, true, true, true, true, true, true, true, true, true, true, false, false, true, false, false, false] (by kernel_rfl) (v := .pointer (some ⟨b3, 3, none⟩)) rfl rfl (by kernel_rfl) rfl (by kernel_rfl) (by kernel_rfl) rfl (fun W => run_field_of rfl rfl (fl_3 _ W)) ⟨hX2.at_ (b3, _) (by simp), hX2.below⟩ ?_
            simp only [nm0, nm1, nm2, nm3]
            refine hold_next (rs := [13]) (by kernel_rfl) (by simp) ?_
            intro i hi
            simp only [List.mem_cons, List.not_mem_nil, or_false] at hi
            rcases hi with rfl
            refine hop_new (d := 23) (f := fun b => .slice (some ⟨b, 0, none⟩) 1 1) (ob := .cells kx 25 (0, 0)) rfl rfl rfl hX2 (fun W => run_slice_of rfl (by simp [Act.eval]) (bs_nd kx h5 W)) #[true, true, true, true, true, true, true, true, true, true, true, true, true, true, false, true, false, false, false] (by kernel_rfl) fun s2_5 Wx5 hX5 => ⟨⟨hX5.at_ (b3, _) (by simp), hX5.below⟩, ?_⟩
            simp only [nm0, nm1, nm2, nm3]
            have hX5 : Mem w ([(s2_5, .cells kx 25 (0, 0))] ++ (BK2 ++ ([(s1_1, .cells #[.string st] 9 (0, 0))] ++ (BL ++ ([(b3, .cells #[.int .i64 6, .int .i64 0, .string ByteArray.empty, vK, vL] 25 (0, 0))] ++ ([(b2, .cells zeroC.toArray 25 (0, 0))])))))) Wx5 := hX5
            refine hold_next (rs := [14]) (by kernel_rfl) (by simp) ?_
            intro i hi
            simp only [List.mem_cons, List.not_mem_nil, or_false] at hi
            rcases hi with rfl
            have hP7 : Mem w ([(s2_5, .cells kx 25 (0, 0))] ++ (BK2 ++ ([(s1_1, .cells #[.string st] 9 (0, 0))] ++ (BL ++ ([(b3, .cells #[.int .i64 6, .int .i64 0, .string ByteArray.empty, vK, vL] 25 (0, 0))] ++ ([(b2, .cells zeroC.toArray 25 (0, 0))])))))) Wx5 := Mem.perm hX5 (List.Perm.refl _)
            have hP8 : Mem w (BL ++ ([(s2_5, .cells kx 25 (0, 0))] ++ (BK2 ++ ([(s1_1, .cells #[.string st] 9 (0, 0))] ++ ([(b3, .cells #[.int .i64 6, .int .i64 0, .string ByteArray.empty, vK, vL] 25 (0, 0))] ++ ([(b2, .cells zeroC.toArray 25 (0, 0))])))))) Wx5 := Mem.perm hP7 (((List.perm_append_comm_assoc _ _ _).trans (List.Perm.append_left _ (((List.perm_append_comm_assoc _ _ _).trans (List.Perm.append_left _ (List.perm_append_comm_assoc _ _ _)))))))
            refine hop_app (d := 24) rfl rfl rfl hP8 HL.out rfl Try.underlying23 hj hy0 hy1 hy2 rfl (by decide) rfl (news := kx.toList) rfl (Mem.at_ hP7 (s2_5, .cells kx 25 (0, 0)) (by simp)) (by decide) (by rw [Array.length_toList, h5]) (by simpa using h1k) (by unfold maxLen; omega) (by omega) #[true, true, true, true, true, true, true, true, true, true, true, true, true, true, true, true, false, false, false] (by kernel_rfl) fun vL2 BL2 Wx6 hL2 hX6 => ⟨⟨hX6.at_ (b3, _) (by simp), hX6.below⟩, ?_⟩
            simp only [nm0, nm1, nm2, nm3]
            have hL3 : Row0 25 5 vL2 (k + 1) (kNd kid (k + 1)) BL2 := by rw [← kNd_succ, show kid (2 * k + 1) = kx.toList from by rw [EKX.out]]; exact hL2
            have hP9 : Mem w ([(b3, .cells #[.int .i64 6, .int .i64 0, .string ByteArray.empty, vK, vL] 25 (0, 0))] ++ (BL2 ++ ([(s2_5, .cells kx 25 (0, 0))] ++ (BK2 ++ ([(s1_1, .cells #[.string st] 9 (0, 0))] ++ ([(b2, .cells zeroC.toArray 25 (0, 0))])))))) Wx6 := Mem.perm hX6 (((List.perm_append_comm_assoc _ _ _).trans (List.Perm.append_left _ (((List.perm_append_comm_assoc _ _ _).trans (List.Perm.append_left _ (((List.perm_append_comm_assoc _ _ _).trans (List.Perm.append_left _ (List.perm_append_comm_assoc _ _ _))))))))))
            have hSe : Wx6.heap[b3]? = some (.cells #[.int .i64 6, .int .i64 0, .string ByteArray.empty, vK, vL] 25 (0, 0)) ∧ Below w.heap.size w Wx6 := ⟨hP9.at_ (b3, _) (by simp), hP9.below⟩
            refine hold_next (rs := [16]) (by kernel_rfl) (by simp) ?_
            intro i hi
            simp only [List.mem_cons, List.not_mem_nil, or_false] at hi
            subst hi
            refine hop_setat (cs' := #[.int .i64 6, .int .i64 0, .string ByteArray.empty, vK2, vL]) rfl rfl rfl hP9 0 rfl rfl rfl rfl (by show 3 < 5; decide) rfl cellStrs hK3.one #[true, true, true, true, true, true, true, true, true, true, true, true, true, true, true, true, true, false, false] (by kernel_rfl) (by kernel_rfl) fun Wx10 hX10 => ?_
            have hX10 : Mem w ([(b3, .cells #[.int .i64 6, .int .i64 0, .string ByteArray.empty, vK2, vL] 25 (0, 0))] ++ (BL2 ++ ([(s2_5, .cells kx 25 (0, 0))] ++ (BK2 ++ ([(s1_1, .cells #[.string st] 9 (0, 0))] ++ ([(b2, .cells zeroC.toArray 25 (0, 0))])))))) Wx10 := hX10
            refine hl_pureS 17 26 #[true, true, true, true, true, true, true, true, true, true, true, true, true, true, true, true, true, true, false] (by kernel_rfl) (v := .pointer (some ⟨b3, 4, none⟩)) rfl rfl (by kernel_rfl) rfl (by kernel_rfl) (by kernel_rfl) rfl (fun W => run_field_of rfl rfl (fl_L _ W)) (by kernel_rfl) ?_
            simp only [nm0, nm1, nm2, nm3]
            refine hold_next (rs := [18]) (by kernel_rfl) (by simp) ?_
            intro i hi
            simp only [List.mem_cons, List.not_mem_nil, or_false] at hi
            subst hi
            refine hop_setat (cs' := #[.int .i64 6, .int .i64 0, .string ByteArray.empty, vK2, vL2]) rfl rfl rfl hX10 0 rfl rfl rfl rfl (by show 4 < 5; decide) rfl cellKs hL3.one #[true, true, true, true, true, true, true, true, true, true, true, true, true, true, true, true, true, true, true] (by kernel_rfl) (by kernel_rfl) fun Wx11 hX11 => ?_
            have hX11 : Mem w ([(b3, .cells #[.int .i64 6, .int .i64 0, .string ByteArray.empty, vK2, vL2] 25 (0, 0))] ++ (BL2 ++ ([(s2_5, .cells kx 25 (0, 0))] ++ (BK2 ++ ([(s1_1, .cells #[.string st] 9 (0, 0))] ++ ([(b2, .cells zeroC.toArray 25 (0, 0))])))))) Wx11 := hX11
            have hP12 : Mem w ([(b2, .cells zeroC.toArray 25 (0, 0))] ++ ([(b3, .cells #[.int .i64 6, .int .i64 0, .string ByteArray.empty, vK2, vL2] 25 (0, 0))] ++ (BL2 ++ ([(s2_5, .cells kx 25 (0, 0))] ++ (BK2 ++ ([(s1_1, .cells #[.string st] 9 (0, 0))])))))) Wx11 := Mem.perm hX11 (((List.perm_append_comm_assoc _ _ _).trans (List.Perm.append_left _ (((List.perm_append_comm_assoc _ _ _).trans (List.Perm.append_left _ (((List.perm_append_comm_assoc _ _ _).trans (List.Perm.append_left _ (((List.perm_append_comm_assoc _ _ _).trans (List.Perm.append_left _ (List.perm_append_comm)))))))))))))
            have hP13 : Mem w ([(b3, .cells #[.int .i64 6, .int .i64 0, .string ByteArray.empty, vK2, vL2] 25 (0, 0))] ++ ([(b2, .cells zeroC.toArray 25 (0, 0))] ++ (BL2 ++ ([(s2_5, .cells kx 25 (0, 0))] ++ (BK2 ++ ([(s1_1, .cells #[.string st] 9 (0, 0))])))))) Wx11 := Mem.perm hP12 (List.perm_append_comm_assoc _ _ _)
            have hP14 : Mem w (BL2 ++ ([(b3, .cells #[.int .i64 6, .int .i64 0, .string ByteArray.empty, vK2, vL2] 25 (0, 0))] ++ ([(b2, .cells zeroC.toArray 25 (0, 0))] ++ ([(s2_5, .cells kx 25 (0, 0))] ++ (BK2 ++ ([(s1_1, .cells #[.string st] 9 (0, 0))])))))) Wx11 := Mem.perm hP13 (((List.perm_append_comm_assoc _ _ _).trans (List.Perm.append_left _ (List.perm_append_comm_assoc _ _ _))))
            have hP15 : Mem w (BK2 ++ (BL2 ++ ([(b3, .cells #[.int .i64 6, .int .i64 0, .string ByteArray.empty, vK2, vL2] 25 (0, 0))] ++ ([(b2, .cells zeroC.toArray 25 (0, 0))] ++ ([(s2_5, .cells kx 25 (0, 0))] ++ ([(s1_1, .cells #[.string st] 9 (0, 0))])))))) Wx11 := Mem.perm hP14 (((List.perm_append_comm_assoc _ _ _).trans (List.Perm.append_left _ (((List.perm_append_comm_assoc _ _ _).trans (List.Perm.append_left _ (((List.perm_append_comm_assoc _ _ _).trans (List.Perm.append_left _ (List.perm_append_comm_assoc _ _ _))))))))))
            have hP16 : Mem w ([(s2_5, .cells kx 25 (0, 0))] ++ (BK2 ++ (BL2 ++ ([(b3, .cells #[.int .i64 6, .int .i64 0, .string ByteArray.empty, vK2, vL2] 25 (0, 0))] ++ ([(b2, .cells zeroC.toArray 25 (0, 0))] ++ ([(s1_1, .cells #[.string st] 9 (0, 0))])))))) Wx11 := Mem.perm hP15 (((List.perm_append_comm_assoc _ _ _).trans (List.Perm.append_left _ (((List.perm_append_comm_assoc _ _ _).trans (List.Perm.append_left _ (((List.perm_append_comm_assoc _ _ _).trans (List.Perm.append_left _ (List.perm_append_comm_assoc _ _ _))))))))))
            have hP17 : Mem w ([(s1_1, .cells #[.string st] 9 (0, 0))] ++ ([(s2_5, .cells kx 25 (0, 0))] ++ (BK2 ++ (BL2 ++ ([(b3, .cells #[.int .i64 6, .int .i64 0, .string ByteArray.empty, vK2, vL2] 25 (0, 0))] ++ ([(b2, .cells zeroC.toArray 25 (0, 0))])))))) Wx11 := Mem.perm hP16 (((List.perm_append_comm_assoc _ _ _).trans (List.Perm.append_left _ (((List.perm_append_comm_assoc _ _ _).trans (List.Perm.append_left _ (((List.perm_append_comm_assoc _ _ _).trans (List.Perm.append_left _ (((List.perm_append_comm_assoc _ _ _).trans (List.Perm.append_left _ (List.perm_append_comm)))))))))))))
            refine hold_done (by kernel_rfl) ?_ _
            refine NoPanic.normal ?_
            exact ⟨rfl, _, _, _, _, _, _, rfl, hK3, hL3, (Mem.tail (Mem.tail hP17))⟩
          · skip
            refine hop_new (d := 23) (f := fun b => .slice (some ⟨b, 0, none⟩) 1 1) (ob := .cells kx 25 (0, 0)) rfl rfl rfl hX1 (fun W => run_slice_of rfl (by simp [Act.eval]) (bs_nd kx h5 W)) #[true, true, true, true, true, true, true, false, true, true, true, true, true, true, false, false, false, false, false] (by kernel_rfl) fun s2_18 Wx18 hX18 => ⟨⟨hX18.at_ (b3, _) (by simp), hX18.below⟩, ?_⟩
            simp only [nm0, nm1, nm2, nm3]
            have hX18 : Mem w ([(s2_18, .cells kx 25 (0, 0))] ++ ([(s1_1, .cells #[.string st] 9 (0, 0))] ++ (BK ++ (BL ++ ([(b3, .cells #[.int .i64 6, .int .i64 0, .string ByteArray.empty, vK, vL] 25 (0, 0))] ++ ([(b2, .cells zeroC.toArray 25 (0, 0))])))))) Wx18 := hX18
            refine hold_next (rs := [7]) (by kernel_rfl) (by simp) ?_
            intro i hi
            simp only [List.mem_cons, List.not_mem_nil, or_false] at hi
            rcases hi with rfl
            have hP20 : Mem w ([(s1_1, .cells #[.string st] 9 (0, 0))] ++ ([(s2_18, .cells kx 25 (0, 0))] ++ (BK ++ (BL ++ ([(b3, .cells #[.int .i64 6, .int .i64 0, .string ByteArray.empty, vK, vL] 25 (0, 0))] ++ ([(b2, .cells zeroC.toArray 25 (0, 0))])))))) Wx18 := Mem.perm hX18 (List.perm_append_comm_assoc _ _ _)
            have hP21 : Mem w (BK ++ ([(s1_1, .cells #[.string st] 9 (0, 0))] ++ ([(s2_18, .cells kx 25 (0, 0))] ++ (BL ++ ([(b3, .cells #[.int .i64 6, .int .i64 0, .string ByteArray.empty, vK, vL] 25 (0, 0))] ++ ([(b2, .cells zeroC.toArray 25 (0, 0))])))))) Wx18 := Mem.perm hP20 (((List.perm_append_comm_assoc _ _ _).trans (List.Perm.append_left _ (List.perm_append_comm_assoc _ _ _))))
            refine hop_app (d := 17) rfl rfl rfl hP21 HK.out rfl Try.underlying22 hi hz0 hz1 hz2 rfl (by decide) rfl (news := [.string st]) rfl (Mem.at_ hP20 (s1_1, .cells #[.string st] 9 (0, 0)) (by simp)) (by decide) rfl (by simp [Value.oneCell']) (by unfold maxLen; omega) (by omega) #[true, true, true, true, true, true, true, true, true, true, true, true, true, true, false, false, false, false, false] (by kernel_rfl) fun vK2 BK2 Wx19 hK2 hX19 => ⟨⟨hX19.at_ (b3, _) (by simp), hX19.below⟩, ?_⟩
            simp only [nm0, nm1, nm2, nm3]
            have hK3 : Row0 9 1 vK2 (k + 1) (kStr Ns (k + 1)) BK2 := by rw [← kStr_succ, ← EST.out]; exact hK2
            refine hl_pure 15 25 #[true, true, true, true, true, true, true, true, true, true, true, true, true, true, false, true, false, false, false] (by kernel_rfl) (v := .pointer (some ⟨b3, 3, none⟩)) rfl rfl (by kernel_rfl) rfl (by kernel_rfl) (by kernel_rfl) rfl (fun W => run_field_of rfl rfl (fl_3 _ W)) ⟨hX19.at_ (b3, _) (by simp), hX19.below⟩ ?_
            simp only [nm0, nm1, nm2, nm3]
            refine hold_next (rs := [14]) (by kernel_rfl) (by simp) ?_
            intro i hi
            simp only [List.mem_cons, List.not_mem_nil, or_false] at hi
            rcases hi with rfl
            have hP23 : Mem w ([(s2_18, .cells kx 25 (0, 0))] ++ (BK2 ++ ([(s1_1, .cells #[.string st] 9 (0, 0))] ++ (BL ++ ([(b3, .cells #[.int .i64 6, .int .i64 0, .string ByteArray.empty, vK, vL] 25 (0, 0))] ++ ([(b2, .cells zeroC.toArray 25 (0, 0))])))))) Wx19 := Mem.perm hX19 (((List.perm_append_comm_assoc _ _ _).trans (List.Perm.append_left _ (List.perm_append_comm_assoc _ _ _))))
            have hP24 : Mem w (BL ++ ([(s2_18, .cells kx 25 (0, 0))] ++ (BK2 ++ ([(s1_1, .cells #[.string st] 9 (0, 0))] ++ ([(b3, .cells #[.int .i64 6, .int .i64 0, .string ByteArray.empty, vK, vL] 25 (0, 0))] ++ ([(b2, .cells zeroC.toArray 25 (0, 0))])))))) Wx19 := Mem.perm hP23 (((List.perm_append_comm_assoc _ _ _).trans (List.Perm.append_left _ (((List.perm_append_comm_assoc _ _ _).trans (List.Perm.append_left _ (List.perm_append_comm_assoc _ _ _)))))))
            refine hop_app (d := 24) rfl rfl rfl hP24 HL.out rfl Try.underlying23 hj hy0 hy1 hy2 rfl (by decide) rfl (news := kx.toList) rfl (Mem.at_ hP23 (s2_18, .cells kx 25 (0, 0)) (by simp)) (by decide) (by rw [Array.length_toList, h5]) (by simpa using h1k) (by unfold maxLen; omega) (by omega) #[true, true, true, true, true, true, true, true, true, true, true, true, true, true, true, true, false, false, false] (by kernel_rfl) fun vL2 BL2 Wx22 hL2 hX22 => ⟨⟨hX22.at_ (b3, _) (by simp), hX22.below⟩, ?_⟩
            simp only [nm0, nm1, nm2, nm3]
            have hL3 : Row0 25 5 vL2 (k + 1) (kNd kid (k + 1)) BL2 := by rw [← kNd_succ, show kid (2 * k + 1) = kx.toList from by rw [EKX.out]]; exact hL2
            have hP25 : Mem w ([(b3, .cells #[.int .i64 6, .int .i64 0, .string ByteArray.empty, vK, vL] 25 (0, 0))] ++ (BL2 ++ ([(s2_18, .cells kx 25 (0, 0))] ++ (BK2 ++ ([(s1_1, .cells #[.string st] 9 (0, 0))] ++ ([(b2, .cells zeroC.toArray 25 (0, 0))])))))) Wx22 := Mem.perm hX22 (((List.perm_append_comm_assoc _ _ _).trans (List.Perm.append_left _ (((List.perm_append_comm_assoc _ _ _).trans (List.Perm.append_left _ (((List.perm_append_comm_assoc _ _ _).trans (List.Perm.append_left _ (List.perm_append_comm_assoc _ _ _))))))))))
            have hSe : Wx22.heap[b3]? = some (.cells #[.int .i64 6, .int .i64 0, .string ByteArray.empty, vK, vL] 25 (0, 0)) ∧ Below w.heap.size w Wx22 := ⟨hP25.at_ (b3, _) (by simp), hP25.below⟩
            refine hold_next (rs := [16]) (by kernel_rfl) (by simp) ?_
            intro i hi
            simp only [List.mem_cons, List.not_mem_nil, or_false] at hi
            subst hi
            refine hop_setat (cs' := #[.int .i64 6, .int .i64 0, .string ByteArray.empty, vK2, vL]) rfl rfl rfl hP25 0 rfl rfl rfl rfl (by show 3 < 5; decide) rfl cellStrs hK3.one #[true, true, true, true, true, true, true, true, true, true, true, true, true, true, true, true, true, false, false] (by kernel_rfl) (by kernel_rfl) fun Wx26 hX26 => ?_
            have hX26 : Mem w ([(b3, .cells #[.int .i64 6, .int .i64 0, .string ByteArray.empty, vK2, vL] 25 (0, 0))] ++ (BL2 ++ ([(s2_18, .cells kx 25 (0, 0))] ++ (BK2 ++ ([(s1_1, .cells #[.string st] 9 (0, 0))] ++ ([(b2, .cells zeroC.toArray 25 (0, 0))])))))) Wx26 := hX26
            refine hl_pureS 17 26 #[true, true, true, true, true, true, true, true, true, true, true, true, true, true, true, true, true, true, false] (by kernel_rfl) (v := .pointer (some ⟨b3, 4, none⟩)) rfl rfl (by kernel_rfl) rfl (by kernel_rfl) (by kernel_rfl) rfl (fun W => run_field_of rfl rfl (fl_L _ W)) (by kernel_rfl) ?_
            simp only [nm0, nm1, nm2, nm3]
            refine hold_next (rs := [18]) (by kernel_rfl) (by simp) ?_
            intro i hi
            simp only [List.mem_cons, List.not_mem_nil, or_false] at hi
            subst hi
            refine hop_setat (cs' := #[.int .i64 6, .int .i64 0, .string ByteArray.empty, vK2, vL2]) rfl rfl rfl hX26 0 rfl rfl rfl rfl (by show 4 < 5; decide) rfl cellKs hL3.one #[true, true, true, true, true, true, true, true, true, true, true, true, true, true, true, true, true, true, true] (by kernel_rfl) (by kernel_rfl) fun Wx27 hX27 => ?_
            have hX27 : Mem w ([(b3, .cells #[.int .i64 6, .int .i64 0, .string ByteArray.empty, vK2, vL2] 25 (0, 0))] ++ (BL2 ++ ([(s2_18, .cells kx 25 (0, 0))] ++ (BK2 ++ ([(s1_1, .cells #[.string st] 9 (0, 0))] ++ ([(b2, .cells zeroC.toArray 25 (0, 0))])))))) Wx27 := hX27
            have hP28 : Mem w ([(b2, .cells zeroC.toArray 25 (0, 0))] ++ ([(b3, .cells #[.int .i64 6, .int .i64 0, .string ByteArray.empty, vK2, vL2] 25 (0, 0))] ++ (BL2 ++ ([(s2_18, .cells kx 25 (0, 0))] ++ (BK2 ++ ([(s1_1, .cells #[.string st] 9 (0, 0))])))))) Wx27 := Mem.perm hX27 (((List.perm_append_comm_assoc _ _ _).trans (List.Perm.append_left _ (((List.perm_append_comm_assoc _ _ _).trans (List.Perm.append_left _ (((List.perm_append_comm_assoc _ _ _).trans (List.Perm.append_left _ (((List.perm_append_comm_assoc _ _ _).trans (List.Perm.append_left _ (List.perm_append_comm)))))))))))))
            have hP29 : Mem w ([(b3, .cells #[.int .i64 6, .int .i64 0, .string ByteArray.empty, vK2, vL2] 25 (0, 0))] ++ ([(b2, .cells zeroC.toArray 25 (0, 0))] ++ (BL2 ++ ([(s2_18, .cells kx 25 (0, 0))] ++ (BK2 ++ ([(s1_1, .cells #[.string st] 9 (0, 0))])))))) Wx27 := Mem.perm hP28 (List.perm_append_comm_assoc _ _ _)
            have hP30 : Mem w (BL2 ++ ([(b3, .cells #[.int .i64 6, .int .i64 0, .string ByteArray.empty, vK2, vL2] 25 (0, 0))] ++ ([(b2, .cells zeroC.toArray 25 (0, 0))] ++ ([(s2_18, .cells kx 25 (0, 0))] ++ (BK2 ++ ([(s1_1, .cells #[.string st] 9 (0, 0))])))))) Wx27 := Mem.perm hP29 (((List.perm_append_comm_assoc _ _ _).trans (List.Perm.append_left _ (List.perm_append_comm_assoc _ _ _))))
            have hP31 : Mem w (BK2 ++ (BL2 ++ ([(b3, .cells #[.int .i64 6, .int .i64 0, .string ByteArray.empty, vK2, vL2] 25 (0, 0))] ++ ([(b2, .cells zeroC.toArray 25 (0, 0))] ++ ([(s2_18, .cells kx 25 (0, 0))] ++ ([(s1_1, .cells #[.string st] 9 (0, 0))])))))) Wx27 := Mem.perm hP30 (((List.perm_append_comm_assoc _ _ _).trans (List.Perm.append_left _ (((List.perm_append_comm_assoc _ _ _).trans (List.Perm.append_left _ (((List.perm_append_comm_assoc _ _ _).trans (List.Perm.append_left _ (List.perm_append_comm_assoc _ _ _))))))))))
            have hP32 : Mem w ([(s2_18, .cells kx 25 (0, 0))] ++ (BK2 ++ (BL2 ++ ([(b3, .cells #[.int .i64 6, .int .i64 0, .string ByteArray.empty, vK2, vL2] 25 (0, 0))] ++ ([(b2, .cells zeroC.toArray 25 (0, 0))] ++ ([(s1_1, .cells #[.string st] 9 (0, 0))])))))) Wx27 := Mem.perm hP31 (((List.perm_append_comm_assoc _ _ _).trans (List.Perm.append_left _ (((List.perm_append_comm_assoc _ _ _).trans (List.Perm.append_left _ (((List.perm_append_comm_assoc _ _ _).trans (List.Perm.append_left _ (List.perm_append_comm_assoc _ _ _))))))))))
            have hP33 : Mem w ([(s1_1, .cells #[.string st] 9 (0, 0))] ++ ([(s2_18, .cells kx 25 (0, 0))] ++ (BK2 ++ (BL2 ++ ([(b3, .cells #[.int .i64 6, .int .i64 0, .string ByteArray.empty, vK2, vL2] 25 (0, 0))] ++ ([(b2, .cells zeroC.toArray 25 (0, 0))])))))) Wx27 := Mem.perm hP32 (((List.perm_append_comm_assoc _ _ _).trans (List.Perm.append_left _ (((List.perm_append_comm_assoc _ _ _).trans (List.Perm.append_left _ (((List.perm_append_comm_assoc _ _ _).trans (List.Perm.append_left _ (((List.perm_append_comm_assoc _ _ _).trans (List.Perm.append_left _ (List.perm_append_comm)))))))))))))
            refine hold_done (by kernel_rfl) ?_ _
            refine NoPanic.normal ?_
            exact ⟨rfl, _, _, _, _, _, _, rfl, hK3, hL3, (Mem.tail (Mem.tail hP33))⟩
        · skip
          refine hop_new (d := 23) (f := fun b => .slice (some ⟨b, 0, none⟩) 1 1) (ob := .cells kx 25 (0, 0)) rfl rfl rfl hMd (fun W => run_slice_of rfl (by simp [Act.eval]) (bs_nd kx h5 W)) #[true, true, true, true, true, true, false, false, true, true, true, true, true, true, false, false, false, false, false] (by kernel_rfl) fun s2_34 Wx34 hX34 => ⟨⟨hX34.at_ (b3, _) (by simp), hX34.below⟩, ?_⟩
          simp only [nm0, nm1, nm2, nm3]
          have hX34 : Mem w ([(s2_34, .cells kx 25 (0, 0))] ++ (BK ++ (BL ++ ([(b3, .cells #[.int .i64 6, .int .i64 0, .string ByteArray.empty, vK, vL] 25 (0, 0))] ++ ([(b2, .cells zeroC.toArray 25 (0, 0))]))))) Wx34 := hX34
          refine hold_next (rs := [6]) (by kernel_rfl) (by simp) ?_
          intro i hi
          simp only [List.mem_cons, List.not_mem_nil, or_false] at hi
          rcases hi with rfl
          refine hop_new (d := 16) (f := fun b => .slice (some ⟨b, 0, none⟩) 1 1) (ob := .cells #[.string st] 9 (0, 0)) rfl rfl rfl hX34 (fun W => run_slice_of rfl (by simp [Act.eval]) (bs_str st W)) #[true, true, true, true, true, true, true, false, true, true, true, true, true, true, false, false, false, false, false] (by kernel_rfl) fun s1_35 Wx35 hX35 => ⟨⟨hX35.at_ (b3, _) (by simp), hX35.below⟩, ?_⟩
          simp only [nm0, nm1, nm2, nm3]
          have hX35 : Mem w ([(s1_35, .cells #[.string st] 9 (0, 0))] ++ ([(s2_34, .cells kx 25 (0, 0))] ++ (BK ++ (BL ++ ([(b3, .cells #[.int .i64 6, .int .i64 0, .string ByteArray.empty, vK, vL] 25 (0, 0))] ++ ([(b2, .cells zeroC.toArray 25 (0, 0))])))))) Wx35 := hX35
          refine hold_next (rs := [7]) (by kernel_rfl) (by simp) ?_
          intro i hi
          simp only [List.mem_cons, List.not_mem_nil, or_false] at hi
          rcases hi with rfl
          have hP37 : Mem w ([(s1_35, .cells #[.string st] 9 (0, 0))] ++ ([(s2_34, .cells kx 25 (0, 0))] ++ (BK ++ (BL ++ ([(b3, .cells #[.int .i64 6, .int .i64 0, .string ByteArray.empty, vK, vL] 25 (0, 0))] ++ ([(b2, .cells zeroC.toArray 25 (0, 0))])))))) Wx35 := Mem.perm hX35 (List.Perm.refl _)
          have hP38 : Mem w (BK ++ ([(s1_35, .cells #[.string st] 9 (0, 0))] ++ ([(s2_34, .cells kx 25 (0, 0))] ++ (BL ++ ([(b3, .cells #[.int .i64 6, .int .i64 0, .string ByteArray.empty, vK, vL] 25 (0, 0))] ++ ([(b2, .cells zeroC.toArray 25 (0, 0))])))))) Wx35 := Mem.perm hP37 (((List.perm_append_comm_assoc _ _ _).trans (List.Perm.append_left _ (List.perm_append_comm_assoc _ _ _))))
          refine hop_app (d := 17) rfl rfl rfl hP38 HK.out rfl Try.underlying22 hi hz0 hz1 hz2 rfl (by decide) rfl (news := [.string st]) rfl (Mem.at_ hP37 (s1_35, .cells #[.string st] 9 (0, 0)) (by simp)) (by decide) rfl (by simp [Value.oneCell']) (by unfold maxLen; omega) (by omega) #[true, true, true, true, true, true, true, true, true, true, true, true, true, true, false, false, false, false, false] (by kernel_rfl) fun vK2 BK2 Wx36 hK2 hX36 => ⟨⟨hX36.at_ (b3, _) (by simp), hX36.below⟩, ?_⟩
          simp only [nm0, nm1, nm2, nm3]
          have hK3 : Row0 9 1 vK2 (k + 1) (kStr Ns (k + 1)) BK2 := by rw [← kStr_succ, ← EST.out]; exact hK2
          refine hl_pure 15 25 #[true, true, true, true, true, true, true, true, true, true, true, true, true, true, false, true, false, false, false] (by kernel_rfl) (v := .pointer (some ⟨b3, 3, none⟩)) rfl rfl (by kernel_rfl) rfl (by kernel_rfl) (by kernel_rfl) rfl (fun W => run_field_of rfl rfl (fl_3 _ W)) ⟨hX36.at_ (b3, _) (by simp), hX36.below⟩ ?_
          simp only [nm0, nm1, nm2, nm3]
          refine hold_next (rs := [14]) (by kernel_rfl) (by simp) ?_
          intro i hi
          simp only [List.mem_cons, List.not_mem_nil, or_false] at hi
          rcases hi with rfl
          have hP40 : Mem w ([(s2_34, .cells kx 25 (0, 0))] ++ (BK2 ++ ([(s1_35, .cells #[.string st] 9 (0, 0))] ++ (BL ++ ([(b3, .cells #[.int .i64 6, .int .i64 0, .string ByteArray.empty, vK, vL] 25 (0, 0))] ++ ([(b2, .cells zeroC.toArray 25 (0, 0))])))))) Wx36 := Mem.perm hX36 (((List.perm_append_comm_assoc _ _ _).trans (List.Perm.append_left _ (List.perm_append_comm_assoc _ _ _))))
          have hP41 : Mem w (BL ++ ([(s2_34, .cells kx 25 (0, 0))] ++ (BK2 ++ ([(s1_35, .cells #[.string st] 9 (0, 0))] ++ ([(b3, .cells #[.int .i64 6, .int .i64 0, .string ByteArray.empty, vK, vL] 25 (0, 0))] ++ ([(b2, .cells zeroC.toArray 25 (0, 0))])))))) Wx36 := Mem.perm hP40 (((List.perm_append_comm_assoc _ _ _).trans (List.Perm.append_left _ (((List.perm_append_comm_assoc _ _ _).trans (List.Perm.append_left _ (List.perm_append_comm_assoc _ _ _)))))))
          refine hop_app (d := 24) rfl rfl rfl hP41 HL.out rfl Try.underlying23 hj hy0 hy1 hy2 rfl (by decide) rfl (news := kx.toList) rfl (Mem.at_ hP40 (s2_34, .cells kx 25 (0, 0)) (by simp)) (by decide) (by rw [Array.length_toList, h5]) (by simpa using h1k) (by unfold maxLen; omega) (by omega) #[true, true, true, true, true, true, true, true, true, true, true, true, true, true, true, true, false, false, false] (by kernel_rfl) fun vL2 BL2 Wx39 hL2 hX39 => ⟨⟨hX39.at_ (b3, _) (by simp), hX39.below⟩, ?_⟩
          simp only [nm0, nm1, nm2, nm3]
          have hL3 : Row0 25 5 vL2 (k + 1) (kNd kid (k + 1)) BL2 := by rw [← kNd_succ, show kid (2 * k + 1) = kx.toList from by rw [EKX.out]]; exact hL2
          have hP42 : Mem w ([(b3, .cells #[.int .i64 6, .int .i64 0, .string ByteArray.empty, vK, vL] 25 (0, 0))] ++ (BL2 ++ ([(s2_34, .cells kx 25 (0, 0))] ++ (BK2 ++ ([(s1_35, .cells #[.string st] 9 (0, 0))] ++ ([(b2, .cells zeroC.toArray 25 (0, 0))])))))) Wx39 := Mem.perm hX39 (((List.perm_append_comm_assoc _ _ _).trans (List.Perm.append_left _ (((List.perm_append_comm_assoc _ _ _).trans (List.Perm.append_left _ (((List.perm_append_comm_assoc _ _ _).trans (List.Perm.append_left _ (List.perm_append_comm_assoc _ _ _))))))))))
          have hSe : Wx39.heap[b3]? = some (.cells #[.int .i64 6, .int .i64 0, .string ByteArray.empty, vK, vL] 25 (0, 0)) ∧ Below w.heap.size w Wx39 := ⟨hP42.at_ (b3, _) (by simp), hP42.below⟩
          refine hold_next (rs := [16]) (by kernel_rfl) (by simp) ?_
          intro i hi
          simp only [List.mem_cons, List.not_mem_nil, or_false] at hi
          subst hi
          refine hop_setat (cs' := #[.int .i64 6, .int .i64 0, .string ByteArray.empty, vK2, vL]) rfl rfl rfl hP42 0 rfl rfl rfl rfl (by show 3 < 5; decide) rfl cellStrs hK3.one #[true, true, true, true, true, true, true, true, true, true, true, true, true, true, true, true, true, false, false] (by kernel_rfl) (by kernel_rfl) fun Wx43 hX43 => ?_
          have hX43 : Mem w ([(b3, .cells #[.int .i64 6, .int .i64 0, .string ByteArray.empty, vK2, vL] 25 (0, 0))] ++ (BL2 ++ ([(s2_34, .cells kx 25 (0, 0))] ++ (BK2 ++ ([(s1_35, .cells #[.string st] 9 (0, 0))] ++ ([(b2, .cells zeroC.toArray 25 (0, 0))])))))) Wx43 := hX43
          refine hl_pureS 17 26 #[true, true, true, true, true, true, true, true, true, true, true, true, true, true, true, true, true, true, false] (by kernel_rfl) (v := .pointer (some ⟨b3, 4, none⟩)) rfl rfl (by kernel_rfl) rfl (by kernel_rfl) (by kernel_rfl) rfl (fun W => run_field_of rfl rfl (fl_L _ W)) (by kernel_rfl) ?_
          simp only [nm0, nm1, nm2, nm3]
          refine hold_next (rs := [18]) (by kernel_rfl) (by simp) ?_
          intro i hi
          simp only [List.mem_cons, List.not_mem_nil, or_false] at hi
          subst hi
          refine hop_setat (cs' := #[.int .i64 6, .int .i64 0, .string ByteArray.empty, vK2, vL2]) rfl rfl rfl hX43 0 rfl rfl rfl rfl (by show 4 < 5; decide) rfl cellKs hL3.one #[true, true, true, true, true, true, true, true, true, true, true, true, true, true, true, true, true, true, true] (by kernel_rfl) (by kernel_rfl) fun Wx44 hX44 => ?_
          have hX44 : Mem w ([(b3, .cells #[.int .i64 6, .int .i64 0, .string ByteArray.empty, vK2, vL2] 25 (0, 0))] ++ (BL2 ++ ([(s2_34, .cells kx 25 (0, 0))] ++ (BK2 ++ ([(s1_35, .cells #[.string st] 9 (0, 0))] ++ ([(b2, .cells zeroC.toArray 25 (0, 0))])))))) Wx44 := hX44
          have hP45 : Mem w ([(b2, .cells zeroC.toArray 25 (0, 0))] ++ ([(b3, .cells #[.int .i64 6, .int .i64 0, .string ByteArray.empty, vK2, vL2] 25 (0, 0))] ++ (BL2 ++ ([(s2_34, .cells kx 25 (0, 0))] ++ (BK2 ++ ([(s1_35, .cells #[.string st] 9 (0, 0))])))))) Wx44 := Mem.perm hX44 (((List.perm_append_comm_assoc _ _ _).trans (List.Perm.append_left _ (((List.perm_append_comm_assoc _ _ _).trans (List.Perm.append_left _ (((List.perm_append_comm_assoc _ _ _).trans (List.Perm.append_left _ (((List.perm_append_comm_assoc _ _ _).trans (List.Perm.append_left _ (List.perm_append_comm)))))))))))))
          have hP46 : Mem w ([(b3, .cells #[.int .i64 6, .int .i64 0, .string ByteArray.empty, vK2, vL2] 25 (0, 0))] ++ ([(b2, .cells zeroC.toArray 25 (0, 0))] ++ (BL2 ++ ([(s2_34, .cells kx 25 (0, 0))] ++ (BK2 ++ ([(s1_35, .cells #[.string st] 9 (0, 0))])))))) Wx44 := Mem.perm hP45 (List.perm_append_comm_assoc _ _ _)
          have hP47 : Mem w (BL2 ++ ([(b3, .cells #[.int .i64 6, .int .i64 0, .string ByteArray.empty, vK2, vL2] 25 (0, 0))] ++ ([(b2, .cells zeroC.toArray 25 (0, 0))] ++ ([(s2_34, .cells kx 25 (0, 0))] ++ (BK2 ++ ([(s1_35, .cells #[.string st] 9 (0, 0))])))))) Wx44 := Mem.perm hP46 (((List.perm_append_comm_assoc _ _ _).trans (List.Perm.append_left _ (List.perm_append_comm_assoc _ _ _))))
          have hP48 : Mem w (BK2 ++ (BL2 ++ ([(b3, .cells #[.int .i64 6, .int .i64 0, .string ByteArray.empty, vK2, vL2] 25 (0, 0))] ++ ([(b2, .cells zeroC.toArray 25 (0, 0))] ++ ([(s2_34, .cells kx 25 (0, 0))] ++ ([(s1_35, .cells #[.string st] 9 (0, 0))])))))) Wx44 := Mem.perm hP47 (((List.perm_append_comm_assoc _ _ _).trans (List.Perm.append_left _ (((List.perm_append_comm_assoc _ _ _).trans (List.Perm.append_left _ (((List.perm_append_comm_assoc _ _ _).trans (List.Perm.append_left _ (List.perm_append_comm_assoc _ _ _))))))))))
          have hP49 : Mem w ([(s2_34, .cells kx 25 (0, 0))] ++ (BK2 ++ (BL2 ++ ([(b3, .cells #[.int .i64 6, .int .i64 0, .string ByteArray.empty, vK2, vL2] 25 (0, 0))] ++ ([(b2, .cells zeroC.toArray 25 (0, 0))] ++ ([(s1_35, .cells #[.string st] 9 (0, 0))])))))) Wx44 := Mem.perm hP48 (((List.perm_append_comm_assoc _ _ _).trans (List.Perm.append_left _ (((List.perm_append_comm_assoc _ _ _).trans (List.Perm.append_left _ (((List.perm_append_comm_assoc _ _ _).trans (List.Perm.append_left _ (List.perm_append_comm_assoc _ _ _))))))))))
          have hP50 : Mem w ([(s1_35, .cells #[.string st] 9 (0, 0))] ++ ([(s2_34, .cells kx 25 (0, 0))] ++ (BK2 ++ (BL2 ++ ([(b3, .cells #[.int .i64 6, .int .i64 0, .string ByteArray.empty, vK2, vL2] 25 (0, 0))] ++ ([(b2, .cells zeroC.toArray 25 (0, 0))])))))) Wx44 := Mem.perm hP49 (((List.perm_append_comm_assoc _ _ _).trans (List.Perm.append_left _ (((List.perm_append_comm_assoc _ _ _).trans (List.Perm.append_left _ (((List.perm_append_comm_assoc _ _ _).trans (List.Perm.append_left _ (((List.perm_append_comm_assoc _ _ _).trans (List.Perm.append_left _ (List.perm_append_comm)))))))))))))
          refine hold_done (by kernel_rfl) ?_ _
          refine NoPanic.normal ?_
          exact ⟨rfl, _, _, _, _, _, _, rfl, hK3, hL3, (Mem.tail (Mem.tail hP50))⟩
      rintro e A1 W9 ⟨rfl, x16, x23, vK2, vL2, BK2, BL2, rfl, hK2, hL2, hM2⟩
      have HK2 := Lib.hid hK2
      have HL2 := Lib.hid hL2
      have HM2 := Lib.hid hM2
      clear hK2 hL2 hM2 hMd hS HK HL HM
      have q2 : (2 : Int) ≤ (q : Int) := by omega
      go_wp2_with fail
      refine ⟨⟨k + 1, q - 2, qc - 2, _, vK2, vL2, BK2, BL2, rfl, by omega, by omega, Lib.hid (fun h0 => ⟨b, off, rfl, ?_⟩), HK2, HL2, HM2⟩, by show q - 2 < q; omega⟩
      rw [if_neg (show ¬qc = 2 from by omega), Nat.add_mul]
      rfl
    · have b1 : decide ((q : Int) > 1) = false := decide_eq_false (by omega)
      have hk : k = Ns.length / 2 := by rw [H.out.len_]; omega
      have hstr : ∀ i, i < k → (Ns.getD (2 * i) zeroNd).str.size ≤ maxLen := fun i hi => by
        have h2i : 2 * i < Ns.length := by omega
        have h1 := H.out.kids (2 * i) h2i
        have e : Ns.getD (2 * i) zeroNd = Ns[2 * i] := by simp [h2i]
        rw [e]
        exact isNd_strlen h1
      have hMR : Mem w ((b3, .cells #[.int .i64 6, .int .i64 0, .string ByteArray.empty, vK, vL] 25 (0, 0)) :: (b2, .cells zeroC.toArray 25 (0, 0)) :: (BK ++ BL)) wr := HM.out.perm (perm_m BK BL _ _)
      have o1 := HK.out.one
      have o2 := HL.out.one
      clear HA HM
      go_upto_region 5 with fail
      refine wp_region_lit ?_
      refine wl_row hMR 0 (v := .agg #[.int .i64 6, .int .i64 0, .string ByteArray.empty, vK, vL]) rfl rfl rfl rfl rowNd rfl ?_
      simp only [nm0, nm1, nm2, nm3]
      refine wl_set hMR 1 (cs := #[.int .i64 6, .int .i64 0, .string ByteArray.empty, vK, vL]) rfl rfl rfl rfl rowNd rfl (one5 rfl rfl rfl o1 o2) rfl rfl fun W9 hM9 => ?_
      simp only [nm2, nm3] at hM9
      refine wpList_nil ?_
      have hM8 : Mem w (BK ++ BL) W9 := hM9.tail.tail
      obtain ⟨ak, lk, ck, eK, hKs⟩ := row0_strs HK.out (List.perm_append_comm (l₁ := BK) (l₂ := BL) |>.trans List.perm_append_comm) hM8 k (fun i => (Ns.getD (2 * i) zeroNd).str) rfl rfl hstr (by unfold maxLen; omega)
      obtain ⟨al, cl, eL, hLr⟩ := row0_nds HL.out (hM8.perm List.perm_append_comm) k kid rfl rfl (fun i hi => isNd_len2 (H.out.kids (2 * i + 1) (by rw [H.out.len_]; omega)))
      have hfin : IsNd W9 [.int .i64 6, .int .i64 0, .string ByteArray.empty, vK, vL] (.mk 6 0 ByteArray.empty (keysOf Ns) (valsOf Ns)) := by
        rw [(keysOf_at Ns).1, (keysOf_at Ns).2, ← hk, eK, eL]
        refine .mk (fun i => kid (2 * i + 1)) (by decide) (by decide) (by decide) hKs (by simp) (by unfold maxLen; omega) hLr fun i hi => ?_
        have hi2 : i < k := by simpa using hi
        have h2i : 2 * i + 1 < Ns.length := by rw [H.out.len_]; omega
        have h1 := (H.out.kids (2 * i + 1) h2i).keep hM9.below
        simpa [h2i] using h1
      have HF := Lib.hid hfin
      have HM9 := Lib.hid hM9
      clear hfin hM9 hM8 hKs hLr hMR HK HL
      go_wp2_with fail
      exact bodyPost_ret (results_c rfl rfl (HM9.out.load 1 rfl rowNd)) rfl ⟨_, HF.out, rfl, HM9.out.below⟩
end Go.Proofs.Ytbheiglbejokmaa
