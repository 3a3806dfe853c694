/- The reference's Depth and All (layer 7), over a node that came in. -/
import Derived.Test.YtbheiglbejokmaaMakB
namespace Go.Proofs.Ytbheiglbejokmaa
set_option maxRecDepth 20000
set_option linter.unusedSimpArgs false
set_option linter.unusedVariables false
open Go.RowKit Go.Sort Go.Lib
attribute [local go_sem] Oper.semAt_some
mutual
/-- All nodes of a tree. -/
def Nd.all : Nd → List Nd
  | .mk k n s ks ls => .mk k n s ks ls :: Nd.allL ls
def Nd.allL : List Nd → List Nd
  | [] => []
  | x :: r => x.all ++ Nd.allL r
end
theorem Nd.all_mk (N : Nd) : N.all = N :: Nd.allL N.vals := by
  cases N
  rw [Nd.all]
  rfl
theorem Nd.all_pos (N : Nd) : 0 < N.all.length := by rw [Nd.all_mk]; simp
theorem allL_app : ∀ (l r : List Nd), Nd.allL (l ++ r) = Nd.allL l ++ Nd.allL r
  | [], r => by rw [Nd.allL]; rfl
  | x :: l, r => by
    show Nd.allL (x :: (l ++ r)) = _
    rw [Nd.allL, Nd.allL, allL_app l r, List.append_assoc]
theorem allL_take (ls : List Nd) (k : Nat) (h : k < ls.length) : Nd.allL (ls.take (k + 1)) = Nd.allL (ls.take k) ++ (ls[k]).all := by
  rw [List.take_add_one, List.getElem?_eq_getElem h, allL_app]
  show _ ++ Nd.allL [ls[k]] = _
  rw [Nd.allL, Nd.allL, List.append_nil]
theorem all_kid (N : Nd) (i : Nat) (h : i < N.vals.length) : (N.vals[i]).all.length < N.all.length := by
  rw [Nd.all_mk N]
  have h1 := allL_take N.vals i h
  have h2 : Nd.allL N.vals = Nd.allL (N.vals.take (i + 1)) ++ Nd.allL (N.vals.drop (i + 1)) := by rw [← allL_app, List.take_append_drop]
  rw [List.length_cons, h2, h1]
  simp
  omega
set_option maxRecDepth 100000 in
set_option maxHeartbeats 4000000 in
theorem depth_any : ∀ (n : Nat) (w : World) (cs : List Value) (N : Nd), N.all.length = n → IsNd w cs N →
    Calls Try.prog 38 #[.agg cs.toArray] w fun e w' => ∃ z, e = .returned (.int .i64 z) ∧ Below w.heap.size w w' := by
  intro n
  induction n using Nat.strongRecOn with
  | ind n ih =>
    intro w cs N hn h
    have IH := Lib.hid ih
    have h0 := h
    have HK0 : Hid (∀ i (h : i < N.vals.length), (N.vals[i]).all.length < n) := Lib.hid (fun i h => by rw [← hn]; exact all_kid N i h)
    have hcs := isNd_len h
    cases h with
    | @mk kind nn s ks ls ak lk ck al ll cl kid hkind hn2 hs hk hl hlm hrow hkids =>
      subst hl
      have HROW := Lib.hid hrow
      have HKIDS := Lib.hid hkids
      clear hrow hkids hk hs hkind hn2 hn h0 ih
      obtain ⟨ca, eca⟩ : ∃ z : Array Value, z = [.int .i64 kind, .int .i64 nn, .string s, .slice ak lk ck, .slice al ls.length cl].toArray := ⟨_, rfl⟩
      have h4 : ca[4]? = some (.slice al ls.length cl) := by rw [eca]; rfl
      rw [← eca] at hcs ⊢
      clear eca
      go_enter Try.func38, Try.ntmps38
      go_upto_region 0 with fail
      have hM0 := Mem.start w
      refine wp_region_lit ?_
      refine wl_new hM0 (f := fun b => .pointer (some ⟨b, 0, none⟩)) (ob := .cells ca 25 (0, 0)) (fun W => run_box_of rfl rfl (bx_Nd ca hcs W)) rfl fun b1 W1 hM1 => ?_
      simp only [nm0, nm1, nm2, nm3]
      refine wl_pure (v := .int .i64 0) (fun W => rfl) rfl ?_
      simp only [nm0, nm1, nm2, nm3]
      refine wpList_nil ?_
      have HM1 := Lib.hid hM1
      clear hM0 hM1
      go_wp2_with fail
      go_loopw [3, 4] (fun v3 v4 wr => ∃ (z : Int) (k : Nat), v3 = .int .i64 z ∧ v4 = .int .i64 (k : Int) ∧ k ≤ ls.length ∧ Mem w [(b1, .cells ca 25 (0, 0))] wr) (fun _ v4 _ => ls.length - (Go.RowKit.intOf v4).toNat)
      case atStart => exact ⟨0, 0, rfl, rfl, Nat.zero_le _, HM1.out⟩
      case round =>
        obtain ⟨z, k, rfl, rfl, hk, hM⟩ := hrel
        clear HM1
        have c4 := cell_of_row wr b1 4 _ _ _ (hM.get 0 rfl)
        rw [h4] at c4
        have HM := Lib.hid hM
        clear hM
        by_cases hlt : k < ls.length
        · have b1b : decide ((k : Int) < (ls.length : Int)) = true := decide_eq_true (by omega)
          obtain ⟨b, off, rfl, hbl, _⟩ := HROW.out.at_ (by omega)
          have hc := Lib.hid ((HROW.out.below HM.out.below).cells hlt)
          have hN := (HKIDS.out k hlt).keep HM.out.below
          have h5 := isNd_len hN
          have hih := Lib.hid (IH.out _ (HK0.out k hlt) wr (kid k) ls[k] rfl hN)
          obtain ⟨ck2, eck⟩ : ∃ c, c = (kid k).toArray := ⟨_, rfl⟩
          rw [← eck] at hc hih h5
          clear hN eck
          go_upto_region 5 with fail
          refine wp_region_lit ?_
          refine wl_pure (v := .pointer (some ⟨b1, 4, none⟩)) (fun W => run_field_of rfl rfl (fl_L _ W)) rfl ?_
          simp only [nm0, nm1, nm2, nm3]
          refine wl_cell HM.out 0 (v := .slice (some ⟨b, off, none⟩) ls.length cl) rfl rfl rfl h4 cellKs rfl ?_
          simp only [nm0, nm1, nm2, nm3]
          refine wl_pure (v := .int .i64 (k : Int)) (fun W => rfl) rfl ?_
          simp only [nm0, nm1, nm2, nm3]
          refine wl_pure (v := .pointer (some ⟨b, off + k * 5, none⟩)) (fun W => run_index_of rfl rfl rfl (ix_L b off ls.length cl k hlt W)) rfl ?_
          simp only [nm0, nm1, nm2, nm3]
          refine wl_val (v := .agg ck2) (run_load_cs rfl rfl hc.out (by rw [h5]; exact rowNd)) rfl ?_
          simp only [nm0, nm1, nm2, nm3]
          refine wl_callX (args := #[.agg ck2]) (fun W => run_call_fn W (enters_of Try.func38 (by kernel_rfl) rfl) rfl (by simp [Act.eval])) hih.out rfl ?_
          rintro e w6 ⟨z2, rfl, hb6⟩
          refine ⟨_, rfl, ?_⟩
          simp only [nm0, nm1, nm2, nm3]
          have HM6 := Lib.hid (HM.out.calls hb6)
          refine wl_pure (v := .int .i64 z2) (fun W => rfl) rfl ?_
          simp only [nm0, nm1, nm2, nm3]
          refine wpList_nil ?_
          clear hih hc HM hb6 c4
          obtain ⟨cc, ecc⟩ : ∃ c, c = decide (z2 > z) := ⟨_, rfl⟩
          have hcc : decide (z2 > z) = cc := ecc.symm
          clear ecc
          have hw1 : wrap64 ((k : Int) + 1) = ((k + 1 : Nat) : Int) := wrap_succ hlt hlm
          have HW := Lib.hid hw1
          clear hw1
          cases cc with
          | true =>
            go_wp2_with fail
            exact ⟨⟨z2, k + 1, rfl, congrArg (Value.int .i64) HW.out, hlt, HM6.out⟩, by rw [HW.out]; show ls.length - ((k + 1 : Nat) : Int).toNat < ls.length - (k : Int).toNat; omega⟩
          | false =>
            go_wp2_with fail
            exact ⟨⟨z, k + 1, rfl, congrArg (Value.int .i64) HW.out, hlt, HM6.out⟩, by rw [HW.out]; show ls.length - ((k + 1 : Nat) : Int).toNat < ls.length - (k : Int).toNat; omega⟩
        · have b1b : decide ((k : Int) < (ls.length : Int)) = false := decide_eq_false (by omega)
          have HB := Lib.hid HM.out.below
          clear HM
          go_wp2_with fail
          exact bodyPost_ret (results_slot rfl rfl) rfl ⟨_, rfl, HB.out⟩
end Go.Proofs.Ytbheiglbejokmaa
