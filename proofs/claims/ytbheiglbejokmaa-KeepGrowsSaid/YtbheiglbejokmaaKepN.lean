/- KeepTells (layer 32): its walk. -/
import Derived.Test.YtbheiglbejokmaaKepM
namespace Go.Proofs.Ytbheiglbejokmaa
set_option maxRecDepth 20000
set_option linter.unusedSimpArgs false
set_option linter.unusedVariables false
open Go.RowKit Go.Sort Go.Lib Go.MapKept
attribute [local go_sem] Oper.semAt_some
theorem top_len (v : Int) : (topL v).length ≤ 1000 := by
  unfold topL
  split
  · rw [srt_len]
    split <;> decide
  · exact Nat.zero_le _
theorem look_len (S : List (ByteArray × List ByteArray)) (k : ByteArray) (N : Nat) (h : ∀ p ∈ S, p.2.length ≤ N) : (look S k).length ≤ N := by
  induction S with
  | nil => exact Nat.zero_le _
  | cons p S ih =>
    obtain ⟨k', xs⟩ := p
    rw [look]
    split
    · exact h (k', xs) (by simp)
    · exact ih fun p hp => h p (List.mem_cons_of_mem _ hp)
theorem kept_len : ∀ m al au mo : Bool, ((keptL m al au mo).all fun p => decide (p.2.length ≤ 1000)) = true := by decide +kernel
theorem cont_len (v : Int) (kind : ByteArray) : (contL v kind).length ≤ 1000 := by
  unfold contL
  split
  · split
    · exact Nat.zero_le _
    · rw [srt_len]
      exact look_len _ _ _ fun p hp => of_decide_eq_true (List.all_eq_true.1 (kept_len (gD v) (gC v) (gE v) (gF v)) p hp)
  · exact Nat.zero_le _
theorem inner_len (t : Bool) : (innerL t).length ≤ 1000 := by cases t <;> decide
/-- The law's same, of one list twice. -/
theorem same_self (w : World) (va vb : Value) (l : List ByteArray) (ha : TxAt w va l) (hb : TxAt w vb l) (hl : l.length ≤ 1000) :
    Calls Try.prog 21 #[va, vb] w fun e w' => e = .returned (.bool true) ∧ w = w' := by
  refine (same_any w va vb l l ha hb hl hl).mono ?_
  rintro e w' ⟨rfl, rfl⟩
  exact ⟨by simp, rfl⟩
theorem same_two (w : World) (x3 x4 x5 x6 : Value) (l2 l3 : List ByteArray) (h3 : TxAt w x3 l2) (h4 : TxAt w x4 l2) (h5 : TxAt w x5 l3) (h6 : TxAt w x6 l3) (n2 : l2.length ≤ 1000) (n3 : l3.length ≤ 1000) (a b : Value) (h : (a = x3 ∧ b = x4) ∨ (a = x5 ∧ b = x6)) :
    Calls Try.prog 21 #[a, b] w fun e w' => e = .returned (.bool true) ∧ w = w' := by
  rcases h with ⟨rfl, rfl⟩ | ⟨rfl, rfl⟩
  · exact same_self w a b l2 h3 h4 n2
  · exact same_self w a b l3 h5 h6 n3
set_option maxHeartbeats 4000000 in
set_option maxRecDepth 20000 in
theorem keepTells_walk (v : Int) (kind key : ByteArray) (W : World) (_wv : (Lit.int .i64 v).wf = true) (_wk : kind.size ≤ maxLen) (_wy : key.size ≤ maxLen) :
    Calls Try.prog 5 #[.int .i64 v, .string kind, .string key] W fun e w' => e = .returned (.bool true) ∧ Below W.heap.size W w' := by
  have K1 := Lib.hid (fun w => top_any w v)
  have K2 := Lib.hid (fun w => rtop_any w v)
  have K3 := Lib.hid (fun w => content_any w v kind)
  have K4 := Lib.hid (fun w => rcont_any w v kind)
  have K5 := Lib.hid (fun w => inner_any w v kind key)
  have K6 := Lib.hid (fun w => rinner_any w v kind key)
  have L1 := Lib.hid (top_len v)
  have L2 := Lib.hid (cont_len v kind)
  have L3 := Lib.hid (inner_len (innerB v kind key))
  generalize topL v = l1 at K1 K2 L1
  generalize contL v kind = l2 at K3 K4 L2
  generalize allB v kind = b2 at K3 K4
  generalize innerB v kind key = b3 at K5 K6 L3
  generalize innerL b3 = l3 at K5 K6 L3
  have hz : ∀ (b : Bool), verB v = b → ev v = if b then 0 else 24 := by
    intro b hb
    subst hb
    unfold ev verB
    by_cases c : 1 ≤ v ∧ v ≤ 11 <;> simp [c]
  rcases hv : verB v with _ | _ <;>
  · have he := hz _ hv
    simp only [if_true, if_false, Bool.false_eq_true] at he
    rw [he] at K1
    rw [hv] at K2
    clear hz he hv
    go_enter Try.func5, Try.ntmps5
    go_upto_region 2 with (go_at_call 19; refine (K1.out W).mono ?_; rintro e w1 ⟨x1, rfl, t1, b1⟩)
    have T1 := Lib.hid t1
    have B1 := Lib.hid b1
    clear t1 b1
    go_upto_region 3 with (go_at_call 20; refine (K2.out w1).mono ?_; rintro e w2 ⟨x2, rfl, t2, b2'⟩)
    have KS := Lib.hid (same_self w2 x1 x2 l1 (T1.out.keep b2') t2 L1.out)
    have B2 := Lib.hid (B1.out.trans (b2'.mono B1.out.size))
    clear t2 b2' T1 B1
    go_upto_region 5 with (go_at_call 21; refine KS.out.mono ?_; rintro e w' ⟨rfl, rfl⟩)
    clear KS K1 K2 L1
    go_upto_region 6 with (go_at_call 22; refine (K3.out w2).mono ?_; rintro e w3 ⟨x3, rfl, t3, b3'⟩)
    have T3 := Lib.hid t3
    have B3 := Lib.hid (B2.out.trans (b3'.mono B2.out.size))
    clear t3 b3' B2
    go_upto_region 7 with (go_at_call 23; refine (K4.out w3).mono ?_; rintro e w4 ⟨x4, rfl, t4, b4'⟩)
    have T3' := Lib.hid (T3.out.keep b4')
    have T4 := Lib.hid t4
    have B4 := Lib.hid (B3.out.trans (b4'.mono B3.out.size))
    clear t4 b4' B3 T3
    go_upto_region 8 with (go_at_call 24; refine (K5.out w4).mono ?_; rintro e w5 ⟨x5, rfl, t5, b5'⟩)
    have T3 := Lib.hid (T3'.out.keep b5')
    have T4' := Lib.hid (T4.out.keep b5')
    have T5 := Lib.hid t5
    have B5 := Lib.hid (B4.out.trans (b5'.mono B4.out.size))
    clear t5 b5' B4 T3' T4
    go_upto_region 9 with (go_at_call 25; refine (K6.out w5).mono ?_; rintro e w6 ⟨x6, rfl, t6, b6'⟩)
    have S12 := Lib.hid (same_two w6 x3 x4 x5 x6 l2 l3 (T3.out.keep b6') (T4'.out.keep b6') (T5.out.keep b6') t6 L2.out L3.out)
    have B6 := Lib.hid (B5.out.trans (b6'.mono B5.out.size))
    have KL := Lib.hid (keepLives_any w6)
    clear t6 b6' B5 T3 T4' T5 K3 K4 K5 K6 L2 L3
    cases b2 <;> cases b3 <;>
    · go_wp2_with (first
        | (go_at_call 21; refine (S12.out _ _ (by first | exact .inl ⟨rfl, rfl⟩ | exact .inr ⟨rfl, rfl⟩)).mono ?_; rintro e w' ⟨rfl, rfl⟩)
        | (go_at_call 26; refine KL.out.mono ?_; rintro e w7 ⟨rfl, b7⟩))
      exact bodyPost_ret (results_slot rfl rfl) rfl ⟨rfl, B6.out.trans (b7.mono B6.out.size)⟩
end Go.Proofs.Ytbheiglbejokmaa
