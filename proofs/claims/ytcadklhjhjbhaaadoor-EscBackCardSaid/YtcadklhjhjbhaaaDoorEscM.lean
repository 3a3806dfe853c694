/- esc (layer 4): pieces. -/
import Derived.Test.YtcadklhjhjbhaaaDoorEscP
namespace Go.Proofs.YtcadklhjhjbhaaaDoor
set_option maxRecDepth 20000
set_option linter.unusedSimpArgs false
set_option linter.unusedVariables false
open Go.RowKit Go.Lib Go.Shelf
attribute [local go_sem] Oper.semAt_some
set_option maxRecDepth 100000 in
set_option maxHeartbeats 8000000 in
theorem pieces_any (f : FuncId) (cap : Array Value) (B c : Nat) (St : List UInt8 → World → Prop) (hP : PutOK f cap B c St) (s : ByteArray) (hs : s.size ≤ 1000) (w : World) (hSt : St [] w) (hv : validB s.data.toList = true) (hT : Tryd.lays197_ren.g 3 < B ∧ Tryd.lays197_ren.g 4 < B) (hTw : Tabs w) :
    Calls Tryd.prog 23 #[.string s, .func (.func f) #[] cap] w fun e w' => e = .returned (.tuple #[]) ∧ St (quoteL s.data.toList) w' ∧ Below B w w' := by
  obtain ⟨o0, ho0, -⟩ := hP.cells _ _ hSt
  have hcl : c < w.heap.size := (Array.getElem?_eq_some_iff.1 ho0).1
  have hBw : B ≤ w.heap.size := by have := hP.low; omega
  have KL := Lib.hid (fun w => letters_any w)
  have KA := Lib.hid (fun w => all_any s w)
  have KP := Lib.hid hP
  have hent := hP.ent
  refine (callsIn_wide (n := 3)).1 (callsIn_of_wp_marks Tryd.func23 rfl trivial (wpIn_wide.2 ?_) rfl)
  simp only [Tryd.ntmps23, List.size_toArray, List.length_cons, List.length_nil, Nat.reduceAdd, Nat.reduceSub, Array.replicate_succ, Array.replicate_zero, List.push_toArray, List.append_toArray, List.nil_append, List.cons_append]
  go_wp2_with fail
  obtain ⟨z, hz⟩ : ∃ z, w.heap.size = z := ⟨_, rfl⟩
  have x1 : Boxed ((w.alloc (.cells #[.string s] 9)).alloc (.cells #[.func (.func f) #[] cap] 61)) z 9 (.string s) := by rw [← hz]; exact (Boxed.new w _ _).alloc _
  have x2 : Boxed ((w.alloc (.cells #[.string s] 9)).alloc (.cells #[.func (.func f) #[] cap] 61)) (z + 1) 61 (.func (.func f) #[] cap) := by
    have h := Boxed.new (w.alloc (.cells #[.string s] 9)) 61 (.func (.func f) #[] cap)
    rw [World.size_alloc, hz] at h
    exact h
  have hb1 : Below w.heap.size w ((w.alloc (.cells #[.string s] 9)).alloc (.cells #[.func (.func f) #[] cap] 61)) := ((Below.refl _ w).alloc (Nat.le_refl _) _).alloc (by simp) _
  obtain ⟨W1, hW1⟩ : ∃ W1, (w.alloc (.cells #[.string s] 9)).alloc (.cells #[.func (.func f) #[] cap] 61) = W1 := ⟨_, rfl⟩
  have h1z : W1.heap.size = z + 2 := by rw [← hW1]; simp [hz]
  rw [hW1] at x1 x2 hb1 ⊢
  clear hW1
  refine (KL.out W1).mono ?_
  rintro e w2 ⟨lm, rfl, hlm, hlmz, hb2⟩
  have x1 := (hb2.block z x1.lt).trans x1
  have x2 := (hb2.block (z + 1) x2.lt).trans x2
  have hb02 : Below w.heap.size w w2 := hb1.trans (hb2.mono hb1.size)
  have y1 : Boxed w2 z 9 (.string s) := x1
  have y2 : Boxed w2 (z + 1) 61 (.func (.func f) #[] cap) := x2
  clear x1 x2 hb1 hb2
  obtain ⟨z2, hz2⟩ : ∃ z2, w2.heap.size = z2 := ⟨_, rfl⟩
  have b1 : Boxed ((w2.alloc (.cells #[.map (some lm)] MapT)).alloc (.cells #[.int .i64 0] 3)) z 9 (.string s) := (y1.alloc _).alloc _
  have b2 : Boxed ((w2.alloc (.cells #[.map (some lm)] MapT)).alloc (.cells #[.int .i64 0] 3)) (z + 1) 61 (.func (.func f) #[] cap) := (y2.alloc _).alloc _
  have b3 : Boxed ((w2.alloc (.cells #[.map (some lm)] MapT)).alloc (.cells #[.int .i64 0] 3)) z2 MapT (.map (some lm)) := by rw [← hz2]; exact (Boxed.new w2 _ _).alloc _
  have b4 : Boxed ((w2.alloc (.cells #[.map (some lm)] MapT)).alloc (.cells #[.int .i64 0] 3)) (z2 + 1) 3 (.int .i64 0) := by
    have h := Boxed.new (w2.alloc (.cells #[.map (some lm)] MapT)) 3 (.int .i64 0)
    rw [World.size_alloc, hz2] at h
    exact h
  have hlt2 : lm < w2.heap.size := (Array.getElem?_eq_some_iff.1 hlm).1
  have hlm3 : ((w2.alloc (.cells #[.map (some lm)] MapT)).alloc (.cells #[.int .i64 0] 3)).heap[lm]? = some (.map ltE 7) := by
    rw [Below.heap_alloc _ _ _ (by rw [World.size_alloc]; omega), Below.heap_alloc _ _ _ hlt2]
    exact hlm
  have hb03 : Below w.heap.size w ((w2.alloc (.cells #[.map (some lm)] MapT)).alloc (.cells #[.int .i64 0] 3)) := (hb02.alloc (by have := hb02.size; omega) _).alloc (by rw [World.size_alloc]; have := hb02.size; omega) _
  have hz3 : ((w2.alloc (.cells #[.map (some lm)] MapT)).alloc (.cells #[.int .i64 0] 3)).heap.size = z2 + 2 := by simp [hz2]
  have h2w : w.heap.size ≤ z2 := by have := hb02.size; omega
  have y1l := y1.lt
  have y2l := y2.lt
  have g2 := b2.cell
  obtain ⟨W3, hW3⟩ : ∃ W3, (w2.alloc (.cells #[.map (some lm)] MapT)).alloc (.cells #[.int .i64 0] 3) = W3 := ⟨_, rfl⟩
  have HW3 := Lib.hid hW3
  have hg2 : ((w2.alloc (.cells #[.map (some lm)] MapT)).alloc (.cells #[.int .i64 0] 3)).cell? ⟨z + 1, 0, none⟩ = some (.func (.func f) #[] cap) := g2
  clear g2
  rw [hW3] at b1 b2 b3 b4 hlm3 hb03 hz3
  clear hW3 y1 y2 hlm
  have hSt3 : St [] W3 := hP.below hSt hb03
  rw [hz]
  go_wp2_with fail
  rw [HW3.out]
  clear hg2 HW3
  have h34 : (#[Value.string ⟨#[34]⟩] : Array Value) = #[.string ⟨[34].toArray⟩] := rfl
  refine (KP.out.call [] [34] W3 hSt3 (by simp) (by omega)).mono ?_
  rintro e w4 ⟨rfl, hSt4, hF4⟩
  have hcz : c < z := by omega
  have b1 := hF4.boxed b1 (by omega) (by decide)
  have b2 := hF4.boxed b2 (by omega) (by decide)
  have b3 := hF4.boxed b3 (by omega) (by decide)
  have b4 := hF4.boxed b4 (by omega) (by decide)
  have hlm4 : w4.heap[lm]? = some (.map ltE 7) := hF4.block lm _ hlm3 (by omega) (fun _ _ e => by cases e)
  have hb04 : Below B w w4 := (hb03.mono hBw).trans (hF4.low)
  have c1 := b1.cell
  have hz4 : z2 + 2 ≤ w4.heap.size := by have := hF4.low.size; omega
  go_wp2_with fail
  refine (KA.out _).mono ?_
  rintro e w6 ⟨rfl, rfl⟩
  go_wp2_with fail
  have KF := Lib.hid Tryd.func62
  have hlen := Lib.size_eq s
  obtain ⟨Bs, hBs⟩ : ∃ Bs, w4.heap.size = Bs := ⟨_, rfl⟩
  have hz7 : (w4.alloc (.cells #[.string s] 9)).heap.size = Bs + 1 := by simp [hBs]
  have g1 : Boxed (w4.alloc (.cells #[.string s] 9)) z 9 (.string s) := b1.alloc _
  have g2 : Boxed (w4.alloc (.cells #[.string s] 9)) (z + 1) 61 (.func (.func f) #[] cap) := b2.alloc _
  have g3 : Boxed (w4.alloc (.cells #[.string s] 9)) z2 MapT (.map (some lm)) := b3.alloc _
  have g4 : Boxed (w4.alloc (.cells #[.string s] 9)) (z2 + 1) 3 (.int .i64 0) := b4.alloc _
  have g5 : Boxed (w4.alloc (.cells #[.string s] 9)) Bs 9 (.string s) := by rw [← hBs]; exact Boxed.new w4 _ _
  have g6 : (w4.alloc (.cells #[.string s] 9)).heap[lm]? = some (.map ltE 7) := by rw [Below.heap_alloc _ _ _ (Array.getElem?_eq_some_iff.1 hlm4).1]; exact hlm4
  have hb07 : Below B w (w4.alloc (.cells #[.string s] 9)) := hb04.alloc (by omega) _
  have hSt7 : St ([34] : List UInt8) (w4.alloc (.cells #[.string s] 9)) := KP.out.below hSt4 ((Below.refl _ w4).alloc (Nat.le_refl _) _)
  rw [hBs]
  obtain ⟨W7, hW7⟩ : ∃ W7, w4.alloc (.cells #[.string s] 9) = W7 := ⟨_, rfl⟩
  rw [hW7] at hz7 g1 g2 g3 g4 g5 g6 hb07 hSt7 ⊢
  clear hW7 b1 b2 b3 b4 hlm4 hb04 hF4 hSt4 c1 hlm3 hb03 hSt3
  refine (wpIn_wide (n := 3)).1 ?_
  refine wpIn_range_next rfl (by omega) (gf := 62) (lb := #[.pointer (some ⟨Bs, 0, none⟩)]) rfl trivial (enters_of Tryd.func62 (by kernel_rfl) rfl)
    (all_next (3 - 1) (by omega) Bs B s (by omega) W7 (by omega) g5.cell (fun W' h => tabs_low hT hTw (hb07.trans h))) kpV_t (kpV_b (by omega) (by omega)) (Below.refl _ _) (fun _ => rfl)
    (fun pre W => ∃ a fr acc, PcI s.data.toList pre a fr acc ∧ St acc W ∧ Boxed W (z2 + 1) 3 (.int .i64 (fr : Int)) ∧ Boxed W z 9 (.string s) ∧ Boxed W (z + 1) 61 (.func (.func f) #[] cap) ∧ Boxed W z2 MapT (.map (some lm)) ∧ Boxed W Bs 9 (.string s) ∧ W.heap[lm]? = some (.map ltE 7) ∧ Below B w W)
    ?own ⟨0, 0, [34], PcI.start _, hSt7, g4, g1, g2, g3, g5, g6, hb07⟩
    (fun x => { tmps := #[.string s, .func (.func f) #[] cap, .pointer (some ⟨z, 0, none⟩), .pointer (some ⟨z + 1, 0, none⟩), .pointer (some ⟨z2, 0, none⟩), .pointer (some ⟨z2 + 1, 0, none⟩), .int .i64 (x.1 : Int), .int .i32 (x.2 : Int), undef, undef, .map (some lm), .func (.func f) #[] cap, .tuple #[], .string s, .func (.func 62) #[] #[.pointer (some ⟨Bs, 0, none⟩)], .int .i64 (x.1 : Int), .int .i32 (x.2 : Int), undef, undef, undef, undef, undef, undef, undef, undef, undef, undef, undef, undef, undef, undef, undef, undef, undef, undef, undef, undef, undef, undef, undef, undef, undef, undef, undef, undef, undef, undef, undef, undef, undef, undef, undef, undef, undef, undef, undef, undef, undef, undef, undef, undef], defers := [] }) ?assign ?body ?done
  case own =>
    rintro pre A W' row ⟨a, fr, acc, hI, hS, k4, k1, k2, k3, k5, k6, kB⟩ hg hr
    have bx : ∀ {k t v}, Boxed A k t v → Boxed W' k t v := fun {k t v} hb => (hg.block k hb.lt (fun e => by
      obtain ⟨-, o, ho, hf⟩ := hr k e.symm
      have hb2 : A.heap[k]? = some _ := hb
      rw [hb2] at ho
      cases ho
      cases hf)).trans hb
    refine ⟨a, fr, acc, hI, KP.out.own hS hg (fun r e => (hr r e).2), bx k4, bx k1, bx k2, bx k3, bx k5, ?_, ?_⟩
    · exact (hg.block lm (Array.getElem?_eq_some_iff.1 k6).1 (fun e => by
        have := (hr lm e.symm).1
        omega)).trans k6
    · exact ownFrom_below hBw (show B ≤ W7.heap.size by omega) pre A W' row kB hg hr
  case assign =>
    intro l x W K hK
    gi_wp2
    exact hK
  case body =>
    rintro l pre x W ⟨a, fr, acc, hI, hS, k4, k1, k2, k3, k5, k6, kB⟩ hx
    obtain ⟨xa, n⟩ := x
    obtain ⟨hxa, k, hnx, hk1, hk2, hcp, -⟩ := hI.next hx
    simp only at hxa hcp hnx
    subst hxa
    have hacc := hI.acc_len
    have hfr := hI.frle
    have hol := hI.len
    have hm : Tryd.prog.follows .mixedOrders = true := by kernel_rfl
    have hn2 := hcp.1
    have hz0 : ∀ w : World, (zeroValue 21).run Tryd.prog w = .ok (i32 0) w := Tryd.zeroValue21
    have klook : ∀ w : World, w.heap[lm]? = some (.map ltE 7) → (Instr.lookup MapT (.map (some lm)) (i32 (n : Int)) true).run Tryd.prog w = .ok (.tuple #[(ansV (letV n)).1, .bool (ansV (letV n)).2]) w := fun w hm => by
      obtain ⟨r, hf, hr⟩ := letters_look n
      have := run_look (P := Tryd.prog) (z := i32 0) Tryd.underlying71 Tryd.underlying21 hm (key := i32 (n : Int)) rfl (hz0 w) hf true
      rw [if_pos rfl, hr] at this
      exact this
    have l3 := k3.cell
    have lk := klook W k6
    have l2 := k2.cell
    have l1 := k1.cell
    have l4 := k4.cell
    have hsg : s.extract fr xa = ⟨(seg s.data.toList fr xa).toArray⟩ := ext_seg s hfr
    have hsl : (seg s.data.toList fr xa).length ≤ xa - fr := by unfold seg; simp; omega
    have q1 : (fr : Int) ≤ (xa : Int) := by omega
    have q2 : (xa : Int) ≤ (s.size : Int) := by omega
    have HI := Lib.hid hI
    cases hl : letV n with
    | some cc =>
      replace lk : (Instr.lookup MapT (.map (some lm)) (i32 (n : Int)) true).run Tryd.prog W = .ok (.tuple #[i32 (cc : Int), .bool true]) W := by rw [hl] at lk; exact lk
      have kcv := conv_let hl
      have h1v : oneV n = [92, UInt8.ofNat cc] := by unfold oneV; rw [hl]
      clear hnx hk1 hk2 hn2 hcp klook
      gi_wp2
      apply region_inRoundR 5 _ (fun W' => St (outL pre) W' ∧ Frm B c W W') hm (by kernel_rfl) (by decide) (by kernel_rfl) (by kernel_rfl) ?run ?rest
      case run =>
        repeat (refine inw_val (v := ?_) (by rfl) (by rfl) (fun d os => ?_) ?_; rotate_left; (focus (have d1 := cell_regrown l1 d os; have d2 := cell_regrown l2 d os; have d4 := cell_regrown l4 d os; with_reducible go_simp; (try with_reducible rfl); done)); simp only [nm0, nm1, nm2, nm3])
        refine inw_val (v := .string ⟨(seg s.data.toList fr xa).toArray⟩) (by rfl) (by rfl) (fun d os => by rw [← hsg]; exact run_slc_str _ rfl rfl (slc_str _ Tryd.underlying9 (by omega) (by omega))) ?_
        simp only [nm0, nm1, nm2, nm3]
        refine inw_last (n := 5) (f := f) (args := #[.string ⟨(seg s.data.toList fr xa).toArray⟩] ++ cap) (v := .tuple #[]) (R := fun _ W' => St (outL pre) W' ∧ Frm B c W W') ?hr ?hr2 rfl ?hw rfl (fun W => ?he) (fun W' hW => ?hc) (fun W' W2 hW hR => ?hk)
        case hr => kernel_rfl
        case hr2 => kernel_rfl
        case hw => rfl
        case he => exact run_call_val W rfl rfl rfl hent
        case hc =>
          refine (KP.out.call acc (seg s.data.toList fr xa) W' (KP.out.below hS hW) (by omega) (by have := hW.size; have := k5.lt; omega)).mono ?_
          rintro e W2 ⟨rfl, h1, h2⟩
          rw [HI.out.out] at h1
          exact ⟨rfl, h1, h2.after hW (by have := k5.lt; omega)⟩
        case hk => 
          simp only [nm0, nm1, nm2, nm3]
          exact ⟨trivial, rfl, hR⟩
      case rest =>
        rintro W2 ⟨hS2, hF2⟩
        have m1 := hF2.boxed k1 (by omega) (by decide)
        have m2 := hF2.boxed k2 (by omega) (by decide)
        have m3 := hF2.boxed k3 (by omega) (by decide)
        have m4 := hF2.boxed k4 (by omega) (by decide)
        have m5 := hF2.boxed k5 (by omega) (by decide)
        have m6 := hF2.block lm _ k6 (by omega) (fun _ _ e => by cases e)
        have e2 := m2.cell
        gi_wp2
        have hl2 : (outL pre).length ≤ 6001 := by omega
        refine ⟨trivial, (CallsIn.inRound l (callsIn_wide.2 (KP.out.call (outL pre) [92, UInt8.ofNat cc] W2 hS2 (by simp; omega) (by have := m5.lt; omega)))).mono ?_⟩
        rintro e W3 ⟨rfl, hS3, hF3⟩
        have m1 := hF3.boxed m1 (by omega) (by decide)
        have m2 := hF3.boxed m2 (by omega) (by decide)
        have m3 := hF3.boxed m3 (by omega) (by decide)
        have m4 := hF3.boxed m4 (by omega) (by decide)
        have m5 := hF3.boxed m5 (by omega) (by decide)
        have m6 := hF3.block lm _ m6 (by omega) (fun _ _ e => by cases e)
        have e3 := m4.cell
        have e4 := m4.frozen
        have q3 : IntKind.i64.wrap ((xa : Int) + 1) = (xa : Int) + 1 := IntWalk.i64_in _ (by omega)
        gi_wp2
        rw [← h1v] at hS3
        exact ⟨((hF2.keeps (KP.out.cells _ _ hS)).trans (hF3.keeps (KP.out.cells _ _ hS2))).trans (KeepsOthers.setCell _ _ _),
          ⟨(hF2.low.trans hF3.low).setCell (p := ⟨z2 + 1, 0, none⟩) (by show B ≤ z2 + 1; omega) _, fun _ => Eq.trans (m5.other (by omega) _) (Eq.symm k5)⟩,
          xa + 1, xa + 1, _, HI.out.esc (by omega) hx (.inl (by rw [hl]; rfl)), KP.out.set hS3 m4 (by omega) (by decide) _, m4.set _, m1.other (by omega) _, m2.other (by omega) _, m3.other (by omega) _, m5.other (by omega) _, (Below.heap_setCell _ ⟨z2 + 1, 0, none⟩ _ _ (by show lm ≠ z2 + 1; omega)).trans m6,
          (kB.trans (hF2.low.trans hF3.low)).setCell (p := ⟨z2 + 1, 0, none⟩) (by show B ≤ z2 + 1; omega) _⟩
    | none =>
      replace lk : (Instr.lookup MapT (.map (some lm)) (i32 (n : Int)) true).run Tryd.prog W = .ok (.tuple #[i32 0, .bool false]) W := by rw [hl] at lk; exact lk
      clear hnx hk1 hk2 hn2 hcp klook
      by_cases h32 : n < 32
      · have p32 : ¬ ((32 : Int) ≤ (n : Int)) := by omega
        gi_wp2
        clear p32
        apply region_inRoundR 5 _ (fun W' => St (outL pre) W' ∧ Frm B c W W') hm (by kernel_rfl) (by decide) (by kernel_rfl) (by kernel_rfl) ?run ?rest
        case run =>
          repeat (refine inw_val (v := ?_) (by rfl) (by rfl) (fun d os => ?_) ?_; rotate_left; (focus (have d1 := cell_regrown l1 d os; have d2 := cell_regrown l2 d os; have d4 := cell_regrown l4 d os; with_reducible go_simp; (try with_reducible rfl); done)); simp only [nm0, nm1, nm2, nm3])
          refine inw_val (v := .string ⟨(seg s.data.toList fr xa).toArray⟩) (by rfl) (by rfl) (fun d os => by rw [← hsg]; exact run_slc_str _ rfl rfl (slc_str _ Tryd.underlying9 (by omega) (by omega))) ?_
          simp only [nm0, nm1, nm2, nm3]
          refine inw_last (n := 5) (f := f) (args := #[.string ⟨(seg s.data.toList fr xa).toArray⟩] ++ cap) (v := .tuple #[]) (R := fun _ W' => St (outL pre) W' ∧ Frm B c W W') ?hr ?hr2 rfl ?hw rfl (fun W => ?he) (fun W' hW => ?hc) (fun W' W2 hW hR => ?hk)
          case hr => kernel_rfl
          case hr2 => kernel_rfl
          case hw => rfl
          case he => exact run_call_val W rfl rfl rfl hent
          case hc =>
            refine (KP.out.call acc (seg s.data.toList fr xa) W' (KP.out.below hS hW) (by omega) (by have := hW.size; have := k5.lt; omega)).mono ?_
            rintro e W2 ⟨rfl, h1, h2⟩
            rw [HI.out.out] at h1
            exact ⟨rfl, h1, h2.after hW (by have := k5.lt; omega)⟩
          case hk => 
            simp only [nm0, nm1, nm2, nm3]
            exact ⟨trivial, rfl, hR⟩
        case rest =>
          rintro W2 ⟨hS2, hF2⟩
          have m1 := hF2.boxed k1 (by omega) (by decide)
          have m2 := hF2.boxed k2 (by omega) (by decide)
          have m3 := hF2.boxed k3 (by omega) (by decide)
          have m4 := hF2.boxed k4 (by omega) (by decide)
          have m5 := hF2.boxed k5 (by omega) (by decide)
          have m6 := hF2.block lm _ k6 (by omega) (fun _ _ e => by cases e)
          have e2 := m2.cell
          have hl2 : (outL pre).length ≤ 6001 := by omega
          have h1v : oneV n = [92, 117, 48, 48, hexC (n / 16), hexC (n % 16)] := by unfold oneV; rw [hl]; simp only; rw [if_pos h32]
          gi_wp2
          apply region_inRoundU 10 _ (fun W' => St (outL pre ++ oneV n) W' ∧ Frm B c W2 W') hm (by kernel_rfl) (by decide) (by kernel_rfl) (by kernel_rfl) ?run ?rest
          case run =>
            refine inw_val (v := .func (.func f) #[] cap) (by rfl) (by rfl) (fun d os => by have d2 := cell_regrown e2 d os; with_reducible go_simp) ?_; simp only [nm0, nm1, nm2, nm3]
            refine inw_pure (v := i32 (n : Int)) (fun _ => rfl) rfl rfl ?_; simp only [nm0, nm1, nm2, nm3]
            refine inw_pure (v := i32 ((n / 16 : Nat) : Int)) (fun W => run_bin_of rfl rfl rfl (shr4 n h32 _ _ W)) rfl rfl ?_; simp only [nm0, nm1, nm2, nm3]
            refine inw_pure (v := .int .u8 ((hexC (n / 16)).toNat : Int)) (fun W => run_idx_str W rfl rfl rfl Tryd.underlying9 (hex_at _ (by omega))) rfl rfl ?_; simp only [nm0, nm1, nm2, nm3]
            refine inw_pure (v := i32 (n : Int)) (fun _ => rfl) rfl rfl ?_; simp only [nm0, nm1, nm2, nm3]
            refine inw_pure (v := i32 ((n % 16 : Nat) : Int)) (fun W => run_bin_of rfl rfl rfl (and15 n h32 _ _ W)) rfl rfl ?_; simp only [nm0, nm1, nm2, nm3]
            refine inw_pure (v := .int .u8 ((hexC (n % 16)).toNat : Int)) (fun W => run_idx_str W rfl rfl rfl Tryd.underlying9 (hex_at _ (by omega))) rfl rfl ?_; simp only [nm0, nm1, nm2, nm3]
            refine inw_slice (n := 2) (L := #[.int .u8 ((hexC (n / 16)).toNat : Int), .int .u8 ((hexC (n % 16)).toNat : Int)]) (T := 5) (fun W => run_slice_of rfl (by simp [Act.eval]) (bs_u82 _ _ W)) rfl rfl ?_; simp only [List.nil_append, List.cons_append]
            refine inw_readS 7 48 (v := .string ⟨#[hexC (n / 16), hexC (n % 16)]⟩) rfl rfl (fun _ => rfl) (fun b W h => run_cvE rfl rfl (bytes_text2 _ _ b W h)) ?_; simp only [nm0, nm1, nm2, nm3]
            refine inw_pure (v := .string ⟨(oneV n).toArray⟩) (fun W => run_bin_of rfl rfl rfl (by rw [h1v]; exact add_str (S := ⟨#[92, 117, 48, 48]⟩) (T := ⟨#[hexC (n / 16), hexC (n % 16)]⟩) _ _ W (by show 4 + 2 ≤ _; decide))) rfl rfl ?_; simp only [nm0, nm1, nm2, nm3]
            refine inw_last1 (n := 10) (f := f) (args := #[.string ⟨(oneV n).toArray⟩] ++ cap) (v := .tuple #[]) (R := fun _ W' => St (outL pre ++ oneV n) W' ∧ Frm B c W2 W') (t := 48) rfl ?hr ?hr2 rfl ?hw rfl (fun b W => ?he) (fun W' hW => ?hc) (fun b W' W3 hW hR => ?hk)
            case hr => kernel_rfl
            case hr2 => kernel_rfl
            case hw => exact fun b => rfl
            case he => exact run_call_val W rfl rfl rfl hent
            case hc =>
              refine (KP.out.call (outL pre) (oneV n) W' (KP.out.below hS2 hW) (by rw [h1v]; simp; omega) (by have := hW.size; have := m5.lt; omega)).mono ?_
              rintro e W3 ⟨rfl, h1, h2⟩
              exact ⟨rfl, h1, h2.after hW (by have := m5.lt; omega)⟩
            case hk =>
              simp only [nm0, nm1, nm2, nm3]
              exact ⟨trivial, ⟨b, rfl⟩, hR⟩
          case rest =>
            rintro b W3 ⟨hS3, hF3⟩
            have m1 := hF3.boxed m1 (by omega) (by decide)
            have m2 := hF3.boxed m2 (by omega) (by decide)
            have m3 := hF3.boxed m3 (by omega) (by decide)
            have m4 := hF3.boxed m4 (by omega) (by decide)
            have m5 := hF3.boxed m5 (by omega) (by decide)
            have m6 := hF3.block lm _ m6 (by omega) (fun _ _ e => by cases e)
            have e3 := m4.cell
            have e4 := m4.frozen
            have q3 : IntKind.i64.wrap ((xa : Int) + 1) = (xa : Int) + 1 := IntWalk.i64_in _ (by omega)
            gi_wp2
            exact ⟨((hF2.keeps (KP.out.cells _ _ hS)).trans (hF3.keeps (KP.out.cells _ _ hS2))).trans (KeepsOthers.setCell _ _ _),
              ⟨(hF2.low.trans hF3.low).setCell (p := ⟨z2 + 1, 0, none⟩) (by show B ≤ z2 + 1; omega) _, fun _ => Eq.trans (m5.other (by omega) _) (Eq.symm k5)⟩,
              xa + 1, xa + 1, _, HI.out.esc (by omega) hx (.inr h32), KP.out.set hS3 m4 (by omega) (by decide) _, m4.set _, m1.other (by omega) _, m2.other (by omega) _, m3.other (by omega) _, m5.other (by omega) _, (Below.heap_setCell _ ⟨z2 + 1, 0, none⟩ _ _ (by show lm ≠ z2 + 1; omega)).trans m6,
              (kB.trans (hF2.low.trans hF3.low)).setCell (p := ⟨z2 + 1, 0, none⟩) (by show B ≤ z2 + 1; omega) _⟩
      · have p32 : (32 : Int) ≤ (n : Int) := by omega
        gi_wp2
        obtain ⟨a', hI2⟩ := HI.out.plain (by omega) hx hl (by omega)
        exact ⟨KeepsOthers.refl _, ⟨Below.refl _ _, fun _ => rfl⟩, a', fr, acc, hI2, hS, k4⟩
  case done =>
    rintro D W hD ⟨a, fr, acc, hI, hS, k4, k1, k2, k3, k5, k6, kB⟩ hK
    have hsl : s.data.toList.length = s.size := hlen.symm
    have ha := hI.done hv (by omega)
    rw [hsl] at ha
    subst ha
    have hfr := hI.frle
    have hacc := hI.acc_len
    have hol := hI.len
    have hm : Tryd.prog.follows .mixedOrders = true := by kernel_rfl
    have l2 := k2.cell
    have l1 := k1.cell
    have l4 := k4.cell
    have hsg : s.extract fr s.size = ⟨(seg s.data.toList fr s.size).toArray⟩ := ext_seg s hfr
    have hsn : (seg s.data.toList fr s.size).length ≤ s.size - fr := by unfold seg; simp
    have HI := Lib.hid hI
    clear hI
    go_upto_region 14 with fail
    refine wp_region_inw 4 hm (by decide) (by kernel_rfl) (by kernel_rfl) ?_
    repeat (refine inw_val (v := ?_) (by rfl) (by rfl) (fun d os => ?_) ?_; rotate_left; (focus (have d1 := cell_regrown l1 d os; have d2 := cell_regrown l2 d os; have d4 := cell_regrown l4 d os; with_reducible go_simp; (try with_reducible rfl); done)); simp only [nm0, nm1, nm2, nm3])
    refine inw_val (v := .string ⟨(seg s.data.toList fr s.size).toArray⟩) (by rfl) (by rfl) (fun d os => by rw [← hsg]; exact run_slc_str _ rfl rfl (slc_str_lo _ Tryd.underlying9 hfr)) ?_
    simp only [nm0, nm1, nm2, nm3]
    refine inw_last (n := 4) (f := f) (args := #[.string ⟨(seg s.data.toList fr s.size).toArray⟩] ++ cap) (v := .tuple #[]) (R := fun _ W' => St (outL (cpsAt s.data.toList 0)) W' ∧ Frm B c W W') ?hr ?hr2 rfl ?hw rfl (fun W => ?he) (fun W' hW => ?hc) (fun W' W2 hW hR => ?hk)
    case hr => kernel_rfl
    case hr2 => kernel_rfl
    case hw => rfl
    case he => exact run_call_val W rfl rfl rfl hent
    case hc =>
      refine (KP.out.call acc (seg s.data.toList fr s.size) W' (KP.out.below hS hW) (by omega) (by have := hW.size; have := k5.lt; omega)).mono ?_
      rintro e W2 ⟨rfl, h1, h2⟩
      rw [HI.out.out] at h1
      exact ⟨rfl, h1, h2.after hW (by have := k5.lt; omega)⟩
    case hk =>
      obtain ⟨hS2, hF2⟩ := hR
      have m2 := hF2.boxed k2 (by omega) (by decide)
      have e2 := m2.cell
      have hz2w := hF2.low.size
      have hD2 := (hF2.keeps (KP.out.cells _ _ hS)).same D _ hK rfl
      simp only [List.getElem_toArray, List.getElem_cons_succ, List.getElem_cons_zero, nm0, nm1, nm2, nm3]
      go_wp2_with fail
      refine (KP.out.call (outL (cpsAt s.data.toList 0)) [34] W2 hS2 (by simp; omega) (by have := k5.lt; omega)).mono ?_
      rintro e W3 ⟨rfl, hS3, hF3⟩
      have hD3 := (hF3.keeps (KP.out.cells _ _ hS2)).same D _ hD2 rfl
      have hBD : w.heap.size ≤ D := by omega
      have hBB := (kB.trans hF2.low).trans hF3.low
      have HD := Lib.hid hD3
      have HBB := Lib.hid hBB
      have HS3 := Lib.hid hS3
      have HBD := Lib.hid hBD
      clear hD3 hBB hS3 hBD hsn hol hacc hfr hz2w h1z hD2 hF3 hF2 hS2 e2 m2 hsg l1 l2 l4 k1 k2 k3 k4 k5 k6 hK hD hS kB hW hz2 hlt2 h2w y1l y2l hz3 hcz hz4 hz7 hb07 hSt7 g1 g2 g3 g4 g5 g6 hsl hlmz
      rename_i Kx hKx
      show Kx _ _
      refine hKx _ _ (wpList_nil ?_)
      show LeavesInM _ _ _ _ _ _ _ _ _
      refine ⟨by simp, .inl ⟨_, _, rfl, run_takeDeferred HD.out, ?_⟩⟩
      refine ⟨.tuple #[], results_none rfl _ _ _, rfl, ?_, ?_⟩
      · exact KP.out.own HS3.out (grownBy_putObj' W3 D _) (fun r e => by cases e; exact ⟨_, HD.out, rfl⟩)
      · exact HBB.out.trans (belowK_b (w := w) hBw _ D _ _ HBD.out HD.out rfl rfl)
end Go.Proofs.YtcadklhjhjbhaaaDoor
