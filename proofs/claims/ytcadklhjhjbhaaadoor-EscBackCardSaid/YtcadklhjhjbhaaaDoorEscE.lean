/- esc (layer 4): what a quoted text stands for; plain. -/
import Derived.Test.YtcadklhjhjbhaaaDoorEscD
namespace Go.Proofs.YtcadklhjhjbhaaaDoor
set_option maxRecDepth 20000
set_option linter.unusedSimpArgs false
set_option linter.unusedVariables false
open Go.RowKit Go.Lib Go.Shelf
attribute [local go_sem] Oper.semAt_some
def pre (P : List UInt8) : Except Nat (List UInt8 × Nat) → Except Nat (List UInt8 × Nat)
  | .ok (s, a) => .ok (P ++ s, a)
  | .error m => .error m
theorem pre_pre (P Q : List UInt8) (r : Except Nat (List UInt8 × Nat)) : pre P (pre Q r) = pre (P ++ Q) r := by
  cases r with
  | error m => rfl
  | ok x => obtain ⟨s, a⟩ := x; simp [pre]
theorem pre_nil (r : Except Nat (List UInt8 × Nat)) : pre [] r = r := by
  cases r with
  | error m => rfl
  | ok x => rfl
/-- What stands from a place on up to a quotation mark, and the place behind that. -/
def unq (L : List UInt8) (i : Nat) : Except Nat (List UInt8 × Nat) :=
  if L.length ≤ i then .error 5 else if at_ L i = 34 then .ok ([], i + 1) else if at_ L i < 32 then .error 6 else
  if at_ L i = 92 then match escV L (i + 1) with
    | .error m => .error m
    | .ok (n, a) => if i < a then pre (form n) (unq L a) else .error 0
  else match nx (L.drop i) with
    | none => .error 10
    | some (_, k) => if 0 < k then pre ((L.drop i).take k) (unq L (i + k)) else .error 0
termination_by L.length - i
theorem num_lt {L : List UInt8} {a n a' : Nat} (h : numV L a = .ok (n, a')) : a < a' := by
  unfold numV at h
  split at h
  · cases h
  · split at h
    · cases h; omega
    · repeat' (split at h; · cases h)
      have := (Prod.mk.inj (Except.ok.inj h)).2
      omega
theorem esc_lt {L : List UInt8} {a n a' : Nat} (h : escV L a = .ok (n, a')) : a < a' := by
  unfold escV at h
  split at h
  · cases h
  · split at h
    · have := num_lt h; omega
    · split at h
      · cases h
      · cases h; omega
section
variable {L : List UInt8} {i : Nat}
theorem unq_end (h : L.length ≤ i) : unq L i = .error 5 := by rw [unq, if_pos h]
theorem unq_quote (h : i < L.length) (hc : at_ L i = 34) : unq L i = .ok ([], i + 1) := by rw [unq, if_neg (by omega), if_pos hc]
theorem unq_low (h : i < L.length) (hc : at_ L i < 32) : unq L i = .error 6 := by rw [unq, if_neg (by omega), if_neg (by omega), if_pos hc]
theorem unq_esc (h : i < L.length) (hc : at_ L i = 92) : unq L i = match escV L (i + 1) with | .error m => .error m | .ok (n, a) => pre (form n) (unq L a) := by
  rw [unq, if_neg (by omega), if_neg (by omega), if_neg (by omega), if_pos hc]
  cases he : escV L (i + 1) with
  | error m => rfl
  | ok r =>
    obtain ⟨n, a⟩ := r
    have := esc_lt he
    simp only
    rw [if_pos (by omega)]
theorem unq_cp (h : i < L.length) (h1 : at_ L i ≠ 34) (h2 : 32 ≤ at_ L i) (h3 : at_ L i ≠ 92) : unq L i = match nx (L.drop i) with | none => .error 10 | some (_, k) => pre ((L.drop i).take k) (unq L (i + k)) := by
  rw [unq, if_neg (by omega), if_neg h1, if_neg (by omega), if_neg h3]
  cases he : nx (L.drop i) with
  | none => rfl
  | some r =>
    obtain ⟨n, k⟩ := r
    have := (nx_lt he).2
    simp only
    rw [if_pos (by omega)]
end
/-- A stretch of bytes. -/
def seg (L : List UInt8) (a i : Nat) : List UInt8 := (L.drop a).take (i - a)
theorem seg_nil (L : List UInt8) (a : Nat) : seg L a a = [] := by simp [seg]
theorem seg_add (L : List UInt8) {a i k : Nat} (h : a ≤ i) : seg L a i ++ (L.drop i).take k = seg L a (i + k) := by
  unfold seg
  rw [show i + k - a = (i - a) + k by omega, List.take_add, List.drop_drop, show a + (i - a) = i by omega]
def TabsO (b : Nat) (w : World) : Prop := Tabs w ∧ Tryd.lays197_ren.g 3 ≠ b ∧ Tryd.lays197_ren.g 4 ≠ b
theorem TabsO.keep {b : Nat} {w w' : World} (h : TabsO b w) (ho : Oth b w w') : TabsO b w' := by
  obtain ⟨h, n3, n4⟩ := h
  obtain ⟨z3, z4⟩ := tabs_size h
  refine ⟨⟨fun c hc => ?_, fun i hi => ⟨?_, ?_⟩⟩, n3, n4⟩
  · rw [World.cell?_of_block (ho.block _ z3 n3)]; exact h.1 c hc
  · rw [World.cell?_of_block (ho.block _ z4 n4)]; exact (h.2 i hi).1
  · rw [World.cell?_of_block (ho.block _ z4 n4)]; exact (h.2 i hi).2
/-- How plain ends. -/
def OutP (t : ByteArray) (a b : Nat) (sh : Value) (e : Ending) (w' : World) : Prop :=
  (∃ i, a ≤ i ∧ i < t.size ∧ (at_ t.data.toList i = 34 ∨ at_ t.data.toList i = 92) ∧ e = .returned (.string ⟨(seg t.data.toList a i).toArray⟩) ∧ w'.heap[b]? = some (rdB t i sh) ∧ unq t.data.toList a = pre (seg t.data.toList a i) (unq t.data.toList i)) ∨
  ∃ m : Nat, e = .panicked (pch (m : Int)) ∧ unq t.data.toList a = .error m
theorem ext_seg (t : ByteArray) {a i : Nat} (h : a ≤ i) : t.extract a i = ⟨(seg t.data.toList a i).toArray⟩ := by
  have := extract_mid t a (i - a)
  rw [show a + (i - a) = i by omega] at this
  exact this
set_option maxRecDepth 100000 in
set_option maxHeartbeats 4000000 in
theorem plain_any (t : ByteArray) (a b : Nat) (sh : Value) (w : World) (hb : w.heap[b]? = some (rdB t a sh)) (ht : t.size ≤ 100000) (ha : a ≤ t.size) (hT : TabsO b w) :
    Calls Tryd.prog 50 #[.pointer (some ⟨b, 0, none⟩)] w fun e w' => Oth b w w' ∧ OutP t a b sh e w' := by
  obtain ⟨L, hL⟩ : ∃ L, t.data.toList = L := ⟨_, rfl⟩
  have hlen : L.length = t.size := by rw [← hL]; exact len_of t
  obtain ⟨-, c1, -⟩ := rd_cells hb
  go_enter Tryd.func50, Tryd.ntmps50
  go_wp2_with fail
  go_loopw [] (fun wr => ∃ i : Nat, a ≤ i ∧ i ≤ t.size ∧ wr.heap[b]? = some (rdB t i sh) ∧ Oth b w wr ∧ unq L a = pre (seg L a i) (unq L i)) (fun wr => match wr.cell? ⟨b, 1, none⟩ with | some v => t.size - (RowKit.intOf v).toNat | none => 0)
  case atStart => exact ⟨a, Nat.le_refl _, ha, hb, Oth.refl b w, by rw [seg_nil, pre_nil]⟩
  case round =>
    obtain ⟨i, hai, his, hbi, hO, hU⟩ := hrel
    obtain ⟨r0, r1, -⟩ := rd_cells hbi
    have f1 := rd_frozen hbi 1
    have hm : Tryd.prog.follows .mixedOrders = true := by kernel_rfl
    by_cases hs : i < t.size
    · have p1 : (i : Int) < (t.size : Int) := by omega
      have KY5 := Lib.hid (fun w => must_yes 5 w)
      have hg := at_get hs
      rw [hL] at hg
      obtain ⟨C, hC⟩ : ∃ C, at_ L i = C := ⟨_, rfl⟩
      have hC2 : C < 256 := by rw [← hC]; exact at_lt _ _
      rw [hC] at hg
      have HU := Lib.hid hU
      have HO := Lib.hid hO
      have HB := Lib.hid hbi
      clear hU hO hbi c1 hb
      by_cases c34 : C = 34 ∨ C = 92
      · have HX := Lib.hid (ext_seg t hai)
        rw [hL] at HX
        have q1 : (a : Int) ≤ (i : Int) := by omega
        have q2 : (i : Int) ≤ (t.size : Int) := by omega
        have HC := Lib.hid hC
        clear hC
        have fin : ∀ w', Oth b wr w' → w'.heap[b]? = wr.heap[b]? → Oth b w w' ∧ OutP t a b sh (.returned (.string (t.extract a i))) w' := fun w' h1 h2 => ⟨HO.out.trans h1, .inl ⟨i, hai, hs, by rw [hL, HC.out]; exact c34, by rw [HX.out, hL], h2.trans HB.out, by rw [hL]; exact HU.out⟩⟩
        rcases c34 with rfl | rfl
        · go_wp2_with (go_quiet ((go_at_call 31; exact Calls.quiet_of_same (KY5.out _))))
          go_ret
          exact fin _ (((Oth.refl b wr).drewN _).drewN _) rfl
        · go_wp2_with (go_quiet ((go_at_call 31; exact Calls.quiet_of_same (KY5.out _))))
          go_ret
          exact fin _ (((Oth.refl b wr).drewN _).drewN _) rfl
      · have n34 : C ≠ 34 := fun h => c34 (.inl h)
        have n92 : C ≠ 92 := fun h => c34 (.inr h)
        have e34 : ((C : Int) == 34) = false := by simp; omega
        have e92 : ((C : Int) == 92) = false := by simp; omega
        have hi' : i < L.length := by omega
        by_cases c32 : 32 ≤ C
        · have hU2 := unq_cp hi' (by rw [hC]; exact n34) (by rw [hC]; exact c32) (by rw [hC]; exact n92)
          have HU2 := Lib.hid hU2
          clear hU2
          have KY6 := Lib.hid (fun w => must_yes 6 w)
          have KY10 := Lib.hid (fun w => must_yes 10 w)
          have KN10 := Lib.hid (fun w => must_no 10 w)
          have hTr := hT.keep HO.out
          have hN := fun w hT => next_any t (i : Int) w hT
          rw [hL, nextV_nat] at hN
          have KNx := Lib.hid hN
          have p32 : (32 : Int) ≤ (C : Int) := by omega
          clear hN hC c34 n34 n92
          go_wp2_with (go_quiet ((go_at_call 31; exact Calls.quiet_of_same (KY5.out _))))
          refine (KY6.out _).mono ?_
          rintro e w1 ⟨rfl, hw1⟩
          have z0 : w1.cell? ⟨b, 0, none⟩ = some (.string t) := by rw [hw1]; exact r0
          have z1 : w1.cell? ⟨b, 1, none⟩ = some (.int .i64 (i : Int)) := by rw [hw1]; exact r1
          have g1 : w1.heap[b]? = some (rdB t i sh) := by rw [hw1]; exact HB.out
          have ho1 : Oth b wr w1 := by rw [hw1]; exact (Oth.refl b wr).drewN _
          have hT1 := hTr.keep ho1
          clear hw1 hTr hg r0 r1 f1
          cases hx : nx (L.drop i) with
          | none =>
            rw [hx] at KNx HU2
            simp only [retN] at KNx
            go_wp2_with fail
            have d0 := fun d os => cell_regrown z0 d os
            have d1 := fun d os => cell_regrown z1 d os
            have kn := Lib.hid (fun d os => KNx.out (Sort.grow (redrawn w1 d) os) (tabs_low (tabs_size hT1.1) hT1.1 (below_regrown w1 d os)))
            refine wp_region_quiet_below hm (by kernel_rfl) ?_
            repeat (go_big_quiet_step (first | (go_at_call 63; exact Calls.regrown_of (kn.out _ _))))
            refine wpQuiet_nil ?_
            intro W hW
            have hbW : Below w1.heap.size w1 W := by obtain ⟨p, rfl⟩ := hW; exact below_regrown _ _ _
            have hoo := (HO.out.trans ho1).trans (Oth.below hbW)
            clear hW d0 d1
            go_wp2_with fail
            refine (KN10.out _).mono ?_
            rintro e w2 ⟨rfl, rfl⟩
            go_wp2_with fail
            exact ⟨rfl, hoo, .inr ⟨10, rfl, by rw [hL, HU.out, HU2.out]; exact rfl⟩⟩
          | some r =>
            obtain ⟨n, k⟩ := r
            rw [hx] at KNx HU2
            simp only [retN] at KNx HU2
            obtain ⟨hk1, hk2, hk3⟩ := nx_pos hx
            rw [List.length_drop] at hk2
            have q3 : IntKind.i64.wrap ((i : Int) + (k : Int)) = (i : Int) + (k : Int) := IntWalk.i64_in _ (by omega)
            have HQ := Lib.hid q3
            clear q3
            go_wp2_with fail
            have d0 := fun d os => cell_regrown z0 d os
            have d1 := fun d os => cell_regrown z1 d os
            have kn := Lib.hid (fun d os => KNx.out (Sort.grow (redrawn w1 d) os) (tabs_low (tabs_size hT1.1) hT1.1 (below_regrown w1 d os)))
            refine wp_region_quiet_below hm (by kernel_rfl) ?_
            repeat (go_big_quiet_step (first | (go_at_call 63; exact Calls.regrown_of (kn.out _ _))))
            refine wpQuiet_nil ?_
            intro W hW
            have hbW : Below w1.heap.size w1 W := by obtain ⟨p, rfl⟩ := hW; exact below_regrown _ _ _
            have hoo := (HO.out.trans ho1).trans (Oth.below hbW)
            have gW : W.heap[b]? = some (rdB t i sh) := (hbW.block b (Array.getElem?_eq_some_iff.1 g1).1).trans g1
            obtain ⟨-, y1, -⟩ := rd_cells gW
            have fW := rd_frozen gW 1
            have q3 := HQ.out
            have g2 := rd_set gW (i + k)
            have ho2 := hoo.setCell 1 (.int .i64 ((i + k : Nat) : Int))
            have hm1 : (wr.cell? ⟨b, 1, none⟩) = some (.int .i64 (i : Int)) := (rd_cells HB.out).2.1
            have hm2 := (rd_cells g2).2.1
            have HH := Lib.hid (And.intro g2 (And.intro ho2 (And.intro hm1 hm2)))
            clear hW d0 d1 g2 ho2 hm1 hm2 z0 z1 g1
            go_wp2_with fail
            refine (KY10.out _).mono ?_
            rintro e w2 ⟨rfl, rfl⟩
            go_wp2_with fail
            go_roundw
            case rel => exact ⟨i + k, by omega, by omega, HH.out.1, HH.out.2.1, by rw [HU.out, HU2.out, pre_pre, seg_add L hai]⟩
            case measure =>
              rw [HH.out.2.2.1]
              have e2 := HH.out.2.2.2
              rw [Int.natCast_add] at e2
              rw [e2]
              simp only [RowKit.intOf]
              omega
        · have KN6 := Lib.hid (fun w => must_no 6 w)
          have HC := Lib.hid hC
          clear hC c34
          go_wp2_with (go_quiet ((go_at_call 31; exact Calls.quiet_of_same (KY5.out _))))
          rw [decide_eq_false (show ¬ (32 : Int) ≤ (C : Int) by omega)]
          refine (KN6.out _).mono ?_
          rintro e w1 ⟨rfl, hw1⟩
          have ho1 : Oth b wr w1 := by rw [hw1]; exact (Oth.refl b wr).drewN _
          clear hw1
          go_wp2_with fail
          exact ⟨rfl, HO.out.trans ho1, .inr ⟨6, rfl, by rw [hL, HU.out, unq_low hi' (by rw [HC.out]; omega)]; exact rfl⟩⟩
    · have q1 : ¬ (i : Int) < (t.size : Int) := by omega
      have KN5 := Lib.hid (fun w => must_no 5 w)
      have d0 := fun d os => cell_regrown r0 d os
      have d1 := fun d os => cell_regrown r1 d os
      clear hb hbi c1
      go_upto_region 2 with fail
      refine wp_region_inw 10 hm (by decide) (by kernel_rfl) (by kernel_rfl) ?_
      repeat (refine inw_val (v := ?_) (by rfl) (by rfl) (fun d os => ?_) ?_; rotate_left; (focus (go_simp; (try with_reducible rfl); done)); simp only [nm0, nm1, nm2, nm3])
      refine inw_panic (n := 10) (f := 31) ?hr rfl ?hw rfl (fun W => ?he) KN5.out (fun W hW => ?hk)
      case hr => decide +kernel
      case hw => rfl
      case he => go_simp
      case hk =>
        go_wp2_with fail
        exact ⟨rfl, hO.trans (Oth.below hW), .inr ⟨5, rfl, by rw [hL, hU, unq_end (by omega)]; exact rfl⟩⟩
end Go.Proofs.YtcadklhjhjbhaaaDoor
