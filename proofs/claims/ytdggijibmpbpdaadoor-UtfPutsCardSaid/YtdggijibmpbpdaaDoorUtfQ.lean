/- UtfPuts: its walk. -/
import Derived.Test.YtdggijibmpbpdaaDoorUtfP
import Derived.Test.YtdggijibmpbpdaaDoorUtfO
namespace Go.Proofs.YtdggijibmpbpdaaDoor
open Go.RowKit Go.Lib Go.Shelf
attribute [local go_sem] Oper.semAt_some
theorem row_open {w : World} {a : Option Addr} {len cap : Nat} {zs : List Int} (h : IsRow .i32 w a len cap zs) :
    ∃ b off, (0 < len → a = some ⟨b, off, none⟩) ∧ (0 < len → b < w.heap.size) ∧ (∀ i, i < len → w.cell? ⟨b, off + i, none⟩ = some (.int .i32 (zs.getD i 0))) ∧ (∀ i, i < len → -2147483648 ≤ zs.getD i 0 ∧ zs.getD i 0 ≤ 2147483647) ∧ len ≤ maxLen := by
  rcases h with ⟨rfl, rfl, rfl, rfl⟩ | ⟨x, rfl, hl, hm, hz, hc, hw⟩
  · exact ⟨0, 0, fun h => absurd h (by omega), fun h => absurd h (by omega), fun i h => absurd h (by omega), fun i h => absurd h (by omega), by decide⟩
  · by_cases h0 : 0 < zs.length
    · obtain ⟨b, off, rfl, hb, hc2⟩ := row_at hc h0
      refine ⟨b, off, fun _ => rfl, fun _ => hb, fun i hi => hc2 i (by omega), fun i hi => ?_, by omega⟩
      have hi2 : i < zs.length := by omega
      have hm2 : zs.getD i 0 ∈ zs := by
        rw [List.getD_eq_getElem?_getD, List.getElem?_eq_getElem hi2]
        exact List.getElem_mem hi2
      have h3 : IntKind.i32.min ≤ zs.getD i 0 ∧ zs.getD i 0 ≤ IntKind.i32.max := by simpa [Lit.wf] using hw _ hm2
      exact h3
    · exact ⟨0, 0, fun h => absurd h (by omega), fun h => absurd h (by omega), fun i h => absurd h (by omega), fun i h => absurd h (by omega), by omega⟩
set_option maxRecDepth 100000 in
set_option maxHeartbeats 4000000 in
theorem utfPuts_w (a : Option Addr) (len cap : Nat) (zs : List Int) (w : World) (hrow : IsRow .i32 w a len cap zs) (hT : Tabs w) : Calls Tryd.prog 3 #[.slice a len cap] w fun e w' => e = .returned (.bool true) ∧ Below w.heap.size w w' := by
  have h2 := tabs_size hT
  obtain ⟨b, off, ha, hb, hc, hz, hmax⟩ := row_open hrow
  clear hrow
  refine (callsIn_wide (n := 3)).1 (callsIn_of_wp_marks Tryd.func3 rfl trivial (wpIn_wide.2 ?_) rfl)
  simp only [Tryd.ntmps3, List.size_toArray, List.length_cons, List.length_nil, Nat.reduceAdd, Nat.reduceSub, Array.replicate_succ, Array.replicate_zero, List.push_toArray, List.append_toArray, List.nil_append, List.cons_append]
  obtain ⟨W0, hW0⟩ : ∃ W0, (w.alloc (.cells #[.slice a len cap] 22)).alloc (.cells #[.bool false] 4) = W0 := ⟨_, rfl⟩
  have bl : Boxed W0 w.heap.size 22 (.slice a len cap) := by rw [← hW0]; exact (Boxed.new w _ _).alloc _
  have br : Boxed W0 (w.heap.size + 1) 4 (.bool false) := by rw [← hW0]; have h := Boxed.new (w.alloc (.cells #[.slice a len cap] 22)) 4 (.bool false); rwa [World.size_alloc] at h
  have hz0 : W0.heap.size = w.heap.size + 2 := by rw [← hW0]; simp
  have hB0 : Below w.heap.size w W0 := by rw [← hW0]; exact ((Below.refl _ w).alloc (Nat.le_refl _) _).alloc (by simp) _
  have hT0 : Tabs W0 := tabs_low h2 hT hB0
  have cl := bl.cell
  by_cases hs : 100 < len
  · have p1 : (100 : Int) < (len : Int) := by omega
    go_wp2_with fail
    try rw [hW0]
    refine (lives_any W0 hT0).mono ?_
    rintro e w1 ⟨rfl, hb1⟩
    have hr := (boxed_below br (by omega) hb1)
    have hrc := hr.cell
    have hrf := hr.frozen
    go_wp2_with fail
    have hrs := (hr.set (.bool true)).cell
    refine ⟨.bool true, ?_, rfl, (hB0.trans (hb1.mono (by omega))).setCell (p := ⟨w.heap.size + 1, 0, none⟩) (by simp) _⟩
    simp [results, Tryd.f3, go_sem, hrs]
  · have p1 : ¬ (100 : Int) < (len : Int) := by omega
    have K1 := Lib.hid (put_any b off len cap zs W0 (by omega) (fun h => by have := hb h; omega) (fun i hi => (hB0.cell (p := ⟨b, off + i, none⟩) (hb (by omega))).trans (hc i hi)) hz a ha)
    go_wp2_with fail
    try rw [hW0]
    refine K1.out.mono ?_
    rintro e w1 ⟨he, hb1⟩
    have bl1 := boxed_below bl (by omega) hb1
    have br1 := boxed_below br (by omega) hb1
    have hB1 := hB0.trans (hb1.mono (by omega))
    have cl1 := bl1.cell
    obtain ⟨S, E, rfl, hyes, hno⟩ : ∃ (S : ByteArray) (E : Int), e = .returned (.tuple #[.string S, .int .i64 E]) ∧ (okP zs len → S = ⟨(formsB zs len).toArray⟩ ∧ E = 0) ∧ (¬ okP zs len → S = ⟨#[]⟩ ∧ E = 2) := by
      rcases he with ⟨hok, rfl⟩ | ⟨hno, rfl⟩
      · exact ⟨_, _, rfl, fun _ => ⟨rfl, rfl⟩, fun h => absurd hok h⟩
      · exact ⟨_, _, rfl, fun h => absurd h hno, fun _ => ⟨rfl, rfl⟩⟩
    have HY := Lib.hid hyes
    have HN := Lib.hid hno
    clear he hyes hno K1
    go_wp2_with fail
    go_loopw [5, 23] (fun v i wr => ∃ k : Nat, k ≤ len ∧ v = .string ⟨(formsB zs k).toArray⟩ ∧ i = .int .i64 (k : Int) ∧ Hid (okP zs k) ∧ Below w1.heap.size w1 wr) (fun _ i _ => len - (Go.RowKit.intOf i).toNat)
    case atStart => exact ⟨0, by omega, rfl, rfl, Lib.hid (fun i hi => absurd hi (by omega)), Below.refl _ _⟩
    case round =>
      obtain ⟨k, hk, rfl, rfl, HO, hbe⟩ := hrel
      have blr := boxed_below bl1 bl1.lt hbe
      have brr := boxed_below br1 br1.lt hbe
      have hBr : Below w.heap.size w wr := hB1.trans (hbe.mono hB1.size)
      by_cases hlt : k < len
      · have p2 : (k : Int) < (len : Int) := by omega
        obtain rfl := ha (by omega)
        have hck : wr.cell? ⟨b, off + k, none⟩ = some (.int .i32 (zs.getD k 0)) := (hBr.cell (p := ⟨b, off + k, none⟩) (hb (by omega))).trans (hc k hlt)
        have hzk := hz k hlt
        have HF : Hid (formsB zs (k + 1) = formsB zs k ++ encodeRune (zs.getD k 0)) := rfl
        have hfew := formsB_few zs k
        have HP : Hid (okP zs (k + 1) ↔ Lib.validRune (zs.getD k 0) = true) := ⟨fun h => h k (by omega), fun h i hi => by
          rcases Nat.eq_or_lt_of_le (Nat.le_of_lt_succ hi) with e | e
          · rw [e]; exact h
          · exact HO.out i e⟩
        have HN1 : Hid (okP zs len → okP zs (k + 1)) := fun h i hi => h i (by omega)
        obtain ⟨r, hr⟩ : ∃ r, zs.getD k 0 = r := ⟨_, rfl⟩
        rw [hr] at hck hzk HF HP
        have KV := Lib.hid (fun w => ris_any r w)
        clear hr
        cases hv : Lib.validRune r with
        | true =>
          rw [hv] at KV
          have HO2 := Lib.hid (HP.out.2 hv)
          obtain ⟨n, rfl, hn⟩ := cp_of_valid hv
          have KF := fun w => form_any n w hn
          simp only [strV] at KF
          have KF := Lib.hid KF
          have HF2 : Hid (formsB zs (k + 1) = formsB zs k ++ form n) := HF.out
          have hfl := form_len_pos hn
          clear hv HO HP HN1 HF hn
          obtain ⟨F, hF⟩ : ∃ F, formsB zs k = F := ⟨_, rfl⟩
          rw [hF] at HF2 hfew ⊢
          clear hF
          have hq : ¬ 9223372036854775807 < F.length + (form n).length := by omega
          go_wp2_with fail
          refine (KV.out _).mono ?_
          rintro e w2 ⟨rfl, rfl⟩
          go_wp2_with fail
          refine (KF.out _).mono ?_
          rintro e w2 ⟨rfl, hb2⟩
          go_wp2_with fail
          go_roundw
          case rel => exact ⟨k + 1, by omega, by rw [HF2.out]; rfl, congrArg (Value.int .i64) (by omega), HO2, hbe.trans (hb2.mono hbe.size)⟩
          case measure =>
            simp [Go.RowKit.intOf]
            omega
        | false =>
          rw [hv] at KV
          have HNO : Hid (¬ okP zs len) := fun h => by
            have := HP.out.1 (HN1.out h)
            rw [hv] at this
            cases this
          obtain ⟨rfl, rfl⟩ := HN.out HNO.out
          clear hv HO HP HN1
          have hTr := tabs_low h2 hT hBr
          go_wp2_with fail
          refine (KV.out _).mono ?_
          rintro e w2 ⟨rfl, rfl⟩
          go_wp2_with fail
          refine (lives_any wr hTr).mono ?_
          rintro e w2 ⟨rfl, hb2⟩
          have br2 := boxed_below brr brr.lt hb2
          have cr2 := br2.cell
          have fr2 := br2.frozen
          have crs := (br2.set (.bool true)).cell
          go_wp2_with fail
          refine ⟨.bool true, ?_, rfl, (hBr.trans (hb2.mono hBr.size)).setCell (p := ⟨w.heap.size + 1, 0, none⟩) (by simp) _⟩
          simp [results, Tryd.f3, go_sem, crs]
      · obtain rfl : k = len := by omega
        have p2 : ¬ (k : Int) < (k : Int) := by omega
        obtain ⟨rfl, rfl⟩ := HY.out HO.out
        obtain ⟨hL, hvd⟩ := cps_forms zs k (by omega) HO.out
        obtain ⟨S, hS⟩ : ∃ S : ByteArray, (⟨(formsB zs k).toArray⟩ : ByteArray) = S := ⟨_, rfl⟩
        have hSl : S.data.toList = formsB zs k := by rw [← hS]
        have hSs : S.size ≤ 400 := by
          have h1 := formsB_few zs k
          rw [Lib.size_eq S, hSl]
          omega
        rw [← hSl] at hL hvd
        have KV := Lib.hid (fun w hT => valid_any S (by omega) w hT)
        rw [hvd] at KV
        have KA := Lib.hid (fun w => all_any S w)
        rw [hS]
        obtain ⟨L, hLL⟩ : ∃ L, prePts zs k = L := ⟨_, rfl⟩
        have hlen : L.length = k := by rw [← hLL]; exact prePts_len zs k
        have HG : Hid (∀ i, i < k → L[i]? = some ((formsB zs i).length, (zs.getD i 0).toNat)) := by
          intro i hi
          rw [← hLL]
          exact prePts_get zs hi
        rw [hLL] at hL
        have HLL := Lib.hid hLL
        clear hLL hS hSl HY HN hvd
        have KF := fun w => func_nil 20 #[.pointer (some ⟨wr.heap.size, 0, none⟩)] w
        obtain ⟨W6, hW6⟩ : ∃ W6, (wr.alloc (.cells #[.string S] 9)).alloc (.cells #[.int .i64 0] 3) = W6 := ⟨_, rfl⟩
        have gs : Boxed W6 wr.heap.size 9 (.string S) := by rw [← hW6]; exact (Boxed.new wr _ _).alloc _
        have gi : Boxed W6 (wr.heap.size + 1) 3 (.int .i64 0) := by
          rw [← hW6]
          have h := Boxed.new (wr.alloc (.cells #[.string S] 9)) 3 (.int .i64 0)
          rwa [World.size_alloc] at h
        have hz6 : W6.heap.size = wr.heap.size + 2 := by rw [← hW6]; simp
        have hB6 : Below wr.heap.size wr W6 := by rw [← hW6]; exact ((Below.refl _ wr).alloc (Nat.le_refl _) _).alloc (by simp) _
        have hzr : w.heap.size + 2 ≤ wr.heap.size := by have := brr.lt; omega
        have HW6 := Lib.hid hW6
        clear hW6
        go_wp2_with fail
        refine (KA.out _).mono ?_
        rintro e w6 ⟨rfl, rfl⟩
        go_wp2_with fail
        rw [HW6.out]
        refine (wpIn_wide (n := 3)).1 ?_
        have hB6w : Below w.heap.size w W6 := hBr.trans (hB6.mono hBr.size)
        refine wpIn_rangeFunc_ownF rfl (by omega) (gf := 20) (lb := #[.pointer (some ⟨wr.heap.size, 0, none⟩)]) rfl trivial (enters_of Tryd.func20 (by kernel_rfl) rfl)
          (all_stops (3 - 1) (by omega) wr.heap.size w.heap.size S (by omega) _ (by omega) gs.cell (fun W' h => tabs_low h2 hT (hB6w.trans h))) kpV_t (kpV_b (by omega) (by omega)) (Below.refl _ _) (fun _ => rfl)
          (fun pre W => (Boxed W (wr.heap.size + 1) 3 (.int .i64 (pre.length : Int)) ∧ pre.length ≤ L.length) ∧ Below wr.heap.size wr W)
          (fun c p W => (c = .ret ∧ ¬ p <+: L) ∧ Below w.heap.size w W)
          (OwnFrom.and (Own.from (fun p A B row h hg hr => ⟨boxed_own _ _ (fun _ : Nat => _) 0 A B row h.1 hg hr, h.2⟩) _) (ownFrom_below (Nat.le_refl _) (by omega)))
          (fun c => OwnFrom.and (Own.from (fun p A B row h hg hr => h) _) (ownFrom_below (Nat.le_refl _) (by omega)))
          ⟨⟨gi, Nat.zero_le _⟩, hB6⟩
          (fun x => { tmps := #[.slice a k cap, .pointer (some ⟨w.heap.size, 0, none⟩), .pointer (some ⟨w.heap.size + 1, 0, none⟩), .string S, .int .i64 0, .string S, undef, u7, .func (.func 20) #[] #[.pointer (some ⟨wr.heap.size, 0, none⟩)], .pointer (some ⟨wr.heap.size + 1, 0, none⟩), undef, .int .i32 (x.2 : Int), .slice a k cap, .int .i64 (k : Int), .bool false, undef, .tuple #[.string S, .int .i64 0], .slice a k cap, .tuple #[.string S, .int .i64 0], .string S, .int .i64 0, .slice a k cap, .int .i64 (k : Int), .int .i64 (k : Int), .bool false, u25, u26, u27, u28, u29, u30, u31, u32, u33, u34, u35, u36, u37, u38, u39, u40, u41, u42, u43, u44, u45, .string S, .func (.func 20) #[] #[.pointer (some ⟨wr.heap.size, 0, none⟩)], .func (.func 20) #[] #[.pointer (some ⟨wr.heap.size, 0, none⟩)], .bool false, .func (.func 20) #[] #[.pointer (some ⟨wr.heap.size, 0, none⟩)], .int .i64 (x.1 : Int), .int .i32 (x.2 : Int), undef, undef, undef, undef, undef, undef, undef, undef, undef, undef, undef, undef, undef, undef, undef, undef, undef, undef, undef, undef, undef, undef, undef, undef, undef, undef, undef, undef, undef, undef, undef, undef, undef, undef], defers := [] }) ?assign ?body ?done ?stop
        case assign =>
          intro l x W K hK
          gi_wp2
          exact hK
        case body =>
          rintro l pre x W ⟨⟨bi, hpl⟩, hB⟩ _
          have blW := boxed_below blr blr.lt hB
          have brW := boxed_below brr brr.lt hB
          have hzW : wr.heap.size + 2 ≤ W.heap.size := by have := bi.lt; omega
          have hBW : Below w.heap.size w W := hBr.trans (hB.mono hBr.size)
          have ci := bi.cell
          have fi := bi.frozen
          have clW := blW.cell
          have cr := brW.cell
          have fr := brW.frozen
          have q1 : (pre.length : Int) ≤ 300 := by omega
          have KST : KeepsOthers W (W.setCell ⟨w.heap.size + 1, 0, none⟩ (.bool false)) := KeepsOthers.setCell _ _ _
          have BST : Below w.heap.size w (W.setCell ⟨w.heap.size + 1, 0, none⟩ (.bool false)) := hBW.setCell (p := ⟨w.heap.size + 1, 0, none⟩) (by simp) _
          rcases Nat.lt_or_ge pre.length k with hlt2 | hge
          · obtain rfl := ha (by omega)
            have hck : W.cell? ⟨b, off + pre.length, none⟩ = some (.int .i32 (zs.getD pre.length 0)) := (hBW.cell (p := ⟨b, off + pre.length, none⟩) (hb (by omega))).trans (hc _ hlt2)
            have HXY : Hid (pre ++ [x] <+: L → ∃ n : Nat, zs.getD pre.length 0 = (n : Int) ∧ x.2 = n) := by
              intro h
              have h1 := (pre_at h).2
              rw [HG.out _ hlt2] at h1
              obtain ⟨n, hn, -⟩ := cp_of_valid (HO.out _ hlt2)
              refine ⟨n, hn, ?_⟩
              have h3 := congrArg Prod.snd (Option.some.inj h1)
              simp only [hn] at h3
              simpa using h3.symm
            obtain ⟨r, hr⟩ : ∃ r, zs.getD pre.length 0 = r := ⟨_, rfl⟩
            rw [hr] at hck HXY
            clear hr
            have j1 : (pre.length : Int) < (k : Int) := by omega
            have j2 : ¬ k ≤ pre.length := by omega
            by_cases e1 : r = (x.2 : Int)
            · have e1b : (r == (x.2 : Int)) = true := by simpa using e1
              have e1c : (r != (x.2 : Int)) = false := by simpa using e1
              clear HXY
              obtain ⟨W1, hW1⟩ : ∃ W1, W.setCell ⟨wr.heap.size + 1, 0, none⟩ (.int .i64 ((pre.length : Int) + 1)) = W1 := ⟨_, rfl⟩
              have KS1 : KeepsOthers W W1 := by rw [← hW1]; exact KeepsOthers.setCell _ _ _
              have bi1 : Boxed W1 (wr.heap.size + 1) 3 (.int .i64 (((pre ++ [x]).length : Nat) : Int)) := by
                rw [← hW1, List.length_append]
                exact bi.set _
              have BW1 : Below w.heap.size W W1 := by rw [← hW1]; exact (Below.refl _ W).setCell (p := ⟨wr.heap.size + 1, 0, none⟩) (by show w.heap.size ≤ wr.heap.size + 1; omega) _
              have BS1 : W1.heap[wr.heap.size]? = W.heap[wr.heap.size]? := by rw [← hW1]; exact Below.heap_setCell W ⟨wr.heap.size + 1, 0, none⟩ _ _ (by show wr.heap.size ≠ wr.heap.size + 1; omega)
              have BQ1 : Below wr.heap.size wr W1 := by rw [← hW1]; exact hB.setCell (p := ⟨wr.heap.size + 1, 0, none⟩) (by show wr.heap.size ≤ wr.heap.size + 1; omega) _
              have HW1 := Lib.hid hW1
              clear hW1
              clear e1
              gi_wp2
              rw [HW1.out]
              exact ⟨KS1, ⟨BW1, fun _ => BS1⟩, ⟨bi1, by rw [List.length_append]; first | exact hlt2 | (rw [hlen]; exact hlt2)⟩, BQ1⟩
            · have e1b : (r == (x.2 : Int)) = false := by simpa using e1
              have e1c : (r != (x.2 : Int)) = true := by simpa using e1
              gi_wp2
              refine ⟨KST, ⟨rfl, fun hp => ?_⟩, BST⟩
              obtain ⟨n, h1, h3⟩ := HXY.out hp
              exact e1 (by rw [h1, h3])
          · have j1 : ¬ (pre.length : Int) < (k : Int) := by omega
            have j2 : k ≤ pre.length := hge
            gi_wp2
            exact ⟨KST, ⟨rfl, fun hp => absurd (pre_at hp).1 (by omega)⟩, BST⟩
        case done =>
          rintro D ys W hD rfl ⟨⟨bi, hpl⟩, hB⟩ hK
          have blW := boxed_below blr blr.lt hB
          have brW := boxed_below brr brr.lt hB
          have hBW : Below w.heap.size w W := hBr.trans (hB.mono hBr.size)
          have hTW := tabs_low h2 hT hBW
          have ci := bi.cell
          have clW := blW.cell
          rw [hL, hlen] at ci
          have hzW : wr.heap.size + 2 ≤ W.heap.size := by have := bi.lt; omega
          go_wp2_with fail
          refine (KV.out W hTW).mono ?_
          rintro e w7 ⟨rfl, hb7⟩
          have br7 := boxed_below brW brW.lt hb7
          have hB7 := hBW.trans (hb7.mono hBW.size)
          go_wp2_with fail
          refine (lives_any w7 (tabs_low h2 hT hB7)).mono ?_
          rintro e w8 ⟨rfl, hb8⟩
          have br8 := boxed_below br7 br7.lt hb8
          have cr8 := br8.cell
          have fr8 := br8.frozen
          go_wp2_with fail
          have hK7 : w7.heap[D]? = some (.deferred (some [])) := (hb7.block D (Array.getElem?_eq_some_iff.1 hK).1).trans hK
          have hK8 : w8.heap[D]? = some (.deferred (some [])) := (hb8.block D (Array.getElem?_eq_some_iff.1 hK7).1).trans hK7
          have hK' := (KeepsOthers.setCell w8 ⟨w.heap.size + 1, 0, none⟩ (.bool true)).same D _ hK8 rfl
          refine ⟨by simp, .inl ⟨_, _, rfl, run_takeDeferred hK', ?_⟩⟩
          have hc5 := cell_kept (br8.set (.bool true)).cell (grownBy_putObj' _ D (.deferred none)) (fun r e => by cases e; exact ⟨_, hK', rfl⟩)
          refine ⟨.bool true, ?_, rfl, ((hB7.trans (hb8.mono hB7.size)).setCell (p := ⟨w.heap.size + 1, 0, none⟩) (by simp) _).trans (belowK_b (w := w) (Nat.le_refl _) _ D _ _ (by omega) hK' rfl rfl)⟩
          simp [results, Tryd.f3, go_sem, hc5]
        case stop =>
          rintro D c pre W hD hpre ⟨⟨rfl, hres⟩, hB⟩ hK
          rw [hL] at hpre
          exact absurd hpre hres
theorem tabs_puts {W : World} (h : laidMetH Tryd.prog Rows.utfPutsRow.laid W) : Tabs W := tabs_of_list h
theorem utfPuts_walk (a : Option Addr) (len cap : Nat) (zs : List Int) (W : World) (hrow : IsRow .i32 W a len cap zs) (h : Tabs W) :
    Calls Tryd.prog 3 #[.slice a len cap] W fun e w' => e = .returned (.bool true) ∧ Below W.heap.size W w' := utfPuts_w a len cap zs W hrow h
end Go.Proofs.YtdggijibmpbpdaaDoor
