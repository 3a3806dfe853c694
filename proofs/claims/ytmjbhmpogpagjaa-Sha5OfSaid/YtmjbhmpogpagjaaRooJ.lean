/- The reference's Root: what it answers. -/
import Derived.Test.YtmjbhmpogpagjaaRooI
import Derived.Deep.LoopGhost
import Derived.BigRegion
namespace Go.Proofs.Ytmjbhmpogpagjaa
set_option maxRecDepth 20000
set_option linter.unusedSimpArgs false
set_option linter.unusedVariables false
open Go.RowKit
def T72 : Nat := 4722366482869645213696
theorem row_low : (rowH (dg 0) 5).toArray = #[.int .u64 0, .int .u64 0, .int .u64 0, .int .u64 0, .int .u64 0] := by kernel_rfl
theorem row_high : (rowH (dg T72) 5).toArray = #[.int .u64 0, .int .u64 0, .int .u64 0, .int .u64 0, .int .u64 256] := by kernel_rfl
theorem row_one : (rowH (dg 1) 1).toArray = #[.int .u64 1] := by kernel_rfl
theorem dg_top (n m j : Nat) (hn : n < 65536) : dg (n * 65536 ^ m) j = if j = m then n else if j < m then 0 else 0 := by
  unfold dg
  split
  · rename_i h
    subst h
    rw [Nat.mul_div_cancel _ (p16_pos j), Nat.mod_eq_of_lt hn]
  · split
    · rename_i h
      obtain ⟨d, rfl⟩ : ∃ d, m = d + 1 + j := ⟨m - j - 1, by omega⟩
      rw [Nat.pow_add, ← Nat.mul_assoc, Nat.mul_div_cancel _ (p16_pos j), Nat.pow_succ, ← Nat.mul_assoc, Nat.mul_mod_left]
    · have h : n * 65536 ^ m < 65536 ^ j := by
        have h1 : n * 65536 ^ m < 65536 * 65536 ^ m := Nat.mul_lt_mul_of_pos_right hn (p16_pos m)
        have h2 : 65536 * 65536 ^ m = 65536 ^ (m + 1) := by rw [Nat.pow_succ, Nat.mul_comm]
        have h3 : 65536 ^ (m + 1) ≤ 65536 ^ j := Nat.pow_le_pow_right (by decide) (by omega)
        omega
      rw [Nat.div_eq_of_lt h]
theorem top_fits (n m : Nat) (hn : n < 65536) : n * 65536 ^ m < 65536 ^ (m + 1) := by
  rw [Nat.pow_succ, Nat.mul_comm]
  exact Nat.mul_lt_mul_of_pos_left hn (p16_pos m)
theorem high_pow (n k : Nat) (hn : n < 65536) (hk : k = 2 ∨ k = 3) : n * 65536 ^ (4 * k) < T72 ^ k := by
  have e : (65536 : Nat) ^ (4 * k) = B64 ^ k := by rw [Nat.pow_mul]; rfl
  have e2 : T72 = 256 * B64 := by decide
  rw [e, e2, Nat.mul_pow]
  refine Nat.mul_lt_mul_of_pos_right ?_ (Nat.pow_pos B64_pos)
  rcases hk with rfl | rfl
  · exact hn
  · exact Nat.lt_of_lt_of_le hn (by decide)
theorem OwnN.of_row {w : World} {b N n : Nat} {p : Nat → Nat} (h : w.heap[b]? = some (.cells (rowH p N).toArray 36 (0, 0))) (hp : ∀ k, k < N → p k = dg n k) (hn : n < 65536 ^ N) (hN : N ≤ 200) : OwnN w b N n :=
  ⟨by rw [← rowH_same hp]; exact h, hn, hN⟩
theorem alloc_new1' (w : World) (z o : Obj) : ((w.alloc z).alloc o).heap[w.heap.size + 1]? = some o := by
  have := alloc_new (w.alloc z) o
  rw [alloc_size1] at this
  exact this
theorem alloc_keep {w : World} {b : Nat} {o : Obj} (r : w.heap[b]? = some o) (z : Obj) : (w.alloc z).heap[b]? = some o := (alloc_old w z b (lt_blk r)).trans r
theorem gr_allocB' {B : Nat} {w0 w1 : World} (h : Below B w0 w1) (hs : B ≤ w1.heap.size) (o : Obj) : Below B w0 (w1.alloc o) := h.alloc hs o
def mkW (w : World) (N : Nat) : World := w.alloc (.cells (rowH (fun _ => 0) N).toArray 36)
set_option maxRecDepth 20000 in
set_option maxHeartbeats 4000000 in
theorem root_any (n k : Nat) (w : World) (h1 : 1 ≤ n) (h2 : n < 65536) (hk : k = 2 ∨ k = 3) :
    Calls Try.prog 33 #[.int .i64 (n : Int), .int .i64 (k : Int)] w fun e w' => ∃ x, x < T72 ∧ x ^ k ≤ n * 65536 ^ (4 * k) ∧ n * 65536 ^ (4 * k) < (x + 1) ^ k ∧ e = .returned (.int .u64 (wd x 0 : Int)) ∧ Below w.heap.size w w' := by
  have n1 : ¬ (n : Int) < 1 := by omega
  have n2 : ¬ (65535 : Int) < (n : Int) := by omega
  have n3 : (n : Int) < 65536 := by omega
  have k3 : (k : Int) ≤ 3 := by omega
  have k2 : (2 : Int) ≤ (k : Int) := by omega
  obtain ⟨K, hK⟩ : ∃ K, 4 * k = K := ⟨_, rfl⟩
  have e4 : 4 * (k : Int) = (K : Int) := by omega
  have K12 : (K : Int) ≤ 12 := by omega
  have mk : (Instr.makeSlice 33 (.int .i64 ((K : Int) + 1)) (.int .i64 ((K : Int) + 1))).run Try.prog w = .ok (.slice (some ⟨w.heap.size, 0, none⟩) (K + 1) (K + 1)) (mkW w (K + 1)) := make_limbs (K + 1) ((K : Int) + 1) (by omega) (by omega) w
  have mh : (mkW w (K + 1)).heap[w.heap.size]? = some (.cells (rowH (fun _ => 0) (K + 1)).toArray 36 (0, 0)) := alloc_new w _
  have mb : Below w.heap.size w (mkW w (K + 1)) := gr_alloc (Below.refl _ _) _
  have ms : (mkW w (K + 1)).heap.size = w.heap.size + 1 := alloc_size1 w _
  generalize mkW w (K + 1) = X at *
  obtain ⟨c0, f0⟩ := arr_get mh (rowH_get (fun _ => 0) (K + 1) K (by omega))
  have MS := Lib.hid (arr_set (i := K) mh (.int .u64 (n : Int)))
  have MB := Lib.hid (mb.setCell (p := ⟨w.heap.size, K, none⟩) (Nat.le_refl _) (.int .u64 (n : Int)))
  clear mh mb
  have kn : (K : Int).toNat = K := by omega
  have HP := Lib.hid (high_pow n k h2 hk)
  have HF := Lib.hid (top_fits n (4 * k) h2)
  rw [hK] at HP HF
  have hT : n * 65536 ^ (4 * k) = n * 65536 ^ K := by rw [hK]
  rw [hT]
  have HKK := Lib.hid hK
  clear hK hT
  have HK := Lib.hid hk
  clear hk
  go_enter Try.func33, Try.ntmps33
  go_wp2_with fail
  clear mk
  have hNe : ∀ j, j < K + 1 → upd (fun _ => 0) K n j = dg (n * 65536 ^ K) j := fun j hj => by
    rw [dg_top n K j h2]
    unfold upd
    split
    · rfl
    · split <;> rfl
  have hN : OwnN (X.setCell ⟨w.heap.size, K, none⟩ (.int .u64 (n : Int))) w.heap.size (K + 1) (n * 65536 ^ K) := OwnN.of_row (by rw [← rowH_set]; exact MS.out) hNe HF.out (by omega)
  have hs0 : (X.setCell ⟨w.heap.size, K, none⟩ (.int .u64 (n : Int))).heap.size = w.heap.size + 1 := by
    show (X.heap.modify _ _).size = _
    rw [Array.size_modify]; exact ms
  have hl := alloc_keep (alloc_new (X.setCell ⟨w.heap.size, K, none⟩ (.int .u64 (n : Int))) (.cells (rowH (dg 0) 5).toArray 36)) (.cells (rowH (dg T72) 5).toArray 36)
  have hh := alloc_new1' (X.setCell ⟨w.heap.size, K, none⟩ (.int .u64 (n : Int))) (.cells (rowH (dg 0) 5).toArray 36) (.cells (rowH (dg T72) 5).toArray 36)
  have hNN := hN.below (gr_alloc (gr_alloc (Below.refl _ _) (.cells (rowH (dg 0) 5).toArray 36)) (.cells (rowH (dg T72) 5).toArray 36))
  have hbb := gr_allocB' (gr_allocB' MB.out (by rw [hs0]; omega) (.cells (rowH (dg 0) 5).toArray 36)) (by rw [alloc_size1, hs0]; omega) (.cells (rowH (dg T72) 5).toArray 36)
  rw [hs0] at hl hh
  rw [row_low, row_high] at hbb hNN
  rw [row_low, row_high] at hl hh
  generalize ((X.setCell ⟨w.heap.size, K, none⟩ (.int .u64 (n : Int))).alloc (.cells #[.int .u64 0, .int .u64 0, .int .u64 0, .int .u64 0, .int .u64 0] 36)).alloc (.cells #[.int .u64 0, .int .u64 0, .int .u64 0, .int .u64 0, .int .u64 256] 36) = X2 at *
  rw [← row_low] at hl
  rw [← row_high] at hh
  have OL : OwnN X2 (w.heap.size + 1) 5 0 := ⟨hl, by decide, by omega⟩
  have OH : OwnN X2 (w.heap.size + 1 + 1) 5 T72 := ⟨hh, by decide, by omega⟩
  obtain ⟨N, hNdef⟩ : ∃ N, n * 65536 ^ K = N := ⟨_, rfl⟩
  rw [hNdef] at HP hNN
  have HND := Lib.hid hNdef
  have HIN := Lib.hid (And.intro (OL.is 5 (Nat.le_refl _)) (And.intro (OH.is 5 (Nat.le_refl _)) (And.intro hNN hbb)))
  clear hl hh hN hs0 hNN hbb OL OH MS MB HF hNe hNdef c0 f0 ms
  have hk3 : k ≤ 3 := by omega
  have hk1 : 1 ≤ k := by omega
  have HK0 := Lib.hid (show 0 < k by omega)
  go_loopg [6, 7] T72 (fun gk lo hi wr => ∃ gl cl gh ch L H : Nat, lo = .slice (some ⟨gl, 0, none⟩) 5 cl ∧ hi = .slice (some ⟨gh, 0, none⟩) 5 ch ∧ IsN wr (some ⟨gl, 0, none⟩) 5 cl L ∧ IsN wr (some ⟨gh, 0, none⟩) 5 ch H ∧ L < H ∧ H ≤ T72 ∧ gk = H - L ∧ L ^ k ≤ N ∧ N < H ^ k ∧ OwnN wr w.heap.size (K + 1) N ∧ Below w.heap.size w wr)
  case atStart =>
    exact ⟨_, _, _, _, 0, T72, rfl, rfl, HIN.out.1, HIN.out.2.1, by decide, Nat.le_refl _, rfl, by rw [Nat.zero_pow HK0.out]; exact Nat.zero_le _, HP.out, HIN.out.2.2.1, HIN.out.2.2.2⟩
  case round =>
    clear HIN
    obtain ⟨gl, cl, gh, ch, L, H, rfl, rfl, hl, hh, hLH, hH, hgk, hLk, hHk, hn, hb⟩ := hrel
    have HL := Lib.hid hl
    have HH := Lib.hid hh
    have HN := Lib.hid hn
    have HB := Lib.hid hb
    have HLK := Lib.hid hLk
    have HHK := Lib.hid hHk
    have HGK := Lib.hid hgk
    clear hl hh hn hb hLk hHk hgk
    have h1w : OwnN (wr.alloc (.cells #[.int .u64 1] 36)) wr.heap.size 1 1 := ⟨by rw [row_one]; exact alloc_new wr _, by decide, by omega⟩
    have KA := radd_any (some ⟨gl, 0, none⟩) (some ⟨wr.heap.size, 0, none⟩) 5 cl 1 1 L 1 (wr.alloc (.cells #[.int .u64 1] 36)) (IsN_below HL.out (gr_alloc (Below.refl _ _) _)) (h1w.is 1 (Nat.le_refl _)) (by omega) (by omega)
    rw [show max 5 1 + 1 = 6 from rfl] at KA
    have HKA := Lib.hid KA
    clear KA h1w
    go_wp2_with fail
    refine HKA.out.mono ?_
    rintro e w1 ⟨g1, rfl, ho1, _, hb1⟩
    clear HKA
    have hb1' : Below wr.heap.size wr w1 := gr_step (gr_alloc (Below.refl _ _) _) hb1
    have KL := rless_any (some ⟨g1, 0, none⟩) (some ⟨gh, 0, none⟩) 6 6 5 ch (L + 1) H w1 (ho1.is 6 (Nat.le_refl _)) (IsN_below HH.out hb1')
    have L1 := Lib.hid (fun q => IsN_below HL.out (below_drewN1 hb1' q))
    have H1 := Lib.hid (fun q => IsN_below HH.out (below_drewN1 hb1' q))
    have N1 := Lib.hid (fun q => HN.out.below (below_drewN1 hb1' q))
    have B1 := Lib.hid (fun q => HB.out.trans ((below_drewN1 hb1' q).mono HB.out.size))
    clear HL HH HN HB ho1 hb1 hb1'
    by_cases hc : L + 1 < H
    · rw [decide_eq_true hc] at KL
      have HKL := Lib.hid KL
      have HC := Lib.hid hc
      clear KL
      go_wp2_with fail
      refine HKL.out.mono ?_
      rintro e w2 ⟨rfl, nq, rfl⟩
      clear HKL
      have KA := radd_any (some ⟨gl, 0, none⟩) (some ⟨gh, 0, none⟩) 5 cl 5 ch L H (w1.drewN nq) (L1.out nq) (H1.out nq) (by omega) (by omega)
      rw [show max 5 5 + 1 = 6 from rfl] at KA
      have HKA := Lib.hid KA
      clear KA
      go_wp2_with fail
      refine HKA.out.mono ?_
      rintro e w3 ⟨g2, rfl, ho3, _, hb3⟩
      clear HKA
      have LL := Lib.hid (IsN_below (L1.out nq) hb3)
      have HHH := Lib.hid (IsN_below (H1.out nq) hb3)
      have NN := Lib.hid ((N1.out nq).below hb3)
      have BB := Lib.hid ((B1.out nq).trans (hb3.mono (B1.out nq).size))
      have OS := Lib.hid ho3
      clear L1 H1 N1 B1 hb3 ho3
      have mk : (Instr.makeSlice 33 (.int .i64 5) (.int .i64 5)).run Try.prog w3 = .ok (.slice (some ⟨w3.heap.size, 0, none⟩) 5 5) (mkW w3 5) := make_limbs 5 5 rfl (by omega) w3
      have mh : (mkW w3 5).heap[w3.heap.size]? = some (.cells (rowH (fun _ => 0) 5).toArray 36 (0, 0)) := alloc_new w3 _
      have mb : Below w3.heap.size w3 (mkW w3 5) := gr_alloc (Below.refl _ _) _
      generalize mkW w3 5 = X5 at *
      have MH := Lib.hid mh
      have MB := Lib.hid mb
      clear mh mb
      obtain ⟨M, hM⟩ : ∃ M, (L + H) / 2 = M := ⟨_, rfl⟩
      have hMd := fun i => half_dg (L + H) i
      rw [hM] at hMd
      have HMD := Lib.hid hMd
      have hM1 : L < M ∧ M < H := by omega
      have hM72 : M < 65536 ^ 5 := by
        have h : T72 < 65536 ^ 5 := by decide
        omega
      have HM72 := Lib.hid hM72
      clear hMd hM hM72
      go_wp2_with fail
      clear mk
      go_loopw [10] (fun i wv => ∃ i' : Nat, ∃ p : Nat → Nat, i' ≤ 5 ∧ i = .int .i64 (i' : Int) ∧ (∀ j, j < i' → p j = dg M j) ∧ wv.heap[w3.heap.size]? = some (.cells (rowH p 5).toArray 36 (0, 0)) ∧ Below w3.heap.size w3 wv) (fun i _ => 5 - (intOf i).toNat)
      case atStart => exact ⟨0, fun _ => 0, by omega, rfl, fun j h => absurd h (by omega), MH.out, MB.out⟩
      case round =>
        clear MH MB
        obtain ⟨i, p, hi, rfl, hp, hr, hbv⟩ := hrel
        by_cases hlt : i < 5
        · have i1 : (i : Int) < 5 := by omega
          have os := OS.out.below hbv
          have c0 := (arr_get os.1 (rowH_get _ 6 i (by omega))).1
          have c1 := (arr_get os.1 (rowH_get _ 6 (i + 1) (by omega))).1
          obtain ⟨c4, f4⟩ := arr_get hr (rowH_get p 5 i hlt)
          have HSET := Lib.hid (arr_set (i := i) hr (.int .u64 (dg M i : Int)))
          have hd := HMD.out i
          have hx := dg_lt (L + H) i
          have hy := dg_lt (L + H) (i + 1)
          have HP2 := Lib.hid hp
          clear os hr hp
          generalize dg (L + H) i = x at *
          generalize dg (L + H) (i + 1) = y at *
          generalize p i = z at c4
          generalize hD : dg M i = D at *
          have HD := Lib.hid hD
          clear hD
          have t1 : (x : Int).tdiv 2 = (x : Int) / 2 := Int.tdiv_eq_ediv_of_nonneg (by omega)
          have t2 : (y : Int).tmod 2 = (y : Int) % 2 := Int.tmod_eq_emod_of_nonneg (by omega)
          have r0 : IntKind.i64.wrap ((i : Int) + 1) = (i : Int) + 1 := IntWalk.i64_in _ (by omega)
          have n1 : ((i : Int) + 1).toNat = i + 1 := by omega
          have n2 : (i : Int) + 1 < 6 := by omega
          have r1 : IntKind.u64.wrap ((x : Int) / 2) = (x : Int) / 2 := IntWalk.u64_in _ (by omega)
          have r2 : IntKind.u64.wrap ((y : Int) % 2 * 32768) = (y : Int) % 2 * 32768 := IntWalk.u64_in _ (by omega)
          have r3 : IntKind.u64.wrap ((x : Int) / 2 + (y : Int) % 2 * 32768) = (D : Int) := by
            rw [IntWalk.u64_in _ (by omega)]; omega
          have HDD := Lib.hid hd
          clear hd
          go_wp2_with fail
          go_region
          all_goals
            go_wp2_with fail
            go_roundw
            case rel =>
              refine ⟨i + 1, upd p i D, by omega, rfl, ?_, ?_, ?_⟩
              · intro j hj
                unfold upd
                split
                · rename_i h; subst h; exact HD.out.symm
                · exact HP2.out j (by omega)
              · have h := HSET.out
                rw [rowH_set] at h
                exact h
              · first | exact (hbv.setCell (p := ⟨w3.heap.size, i, none⟩) (Nat.le_refl _) _).drew | exact hbv.setCell (p := ⟨w3.heap.size, i, none⟩) (Nat.le_refl _) _
            case measure =>
              try simp only [intOf]
              omega
        · obtain rfl : i = 5 := by omega
          have hm : OwnN wr w3.heap.size 5 M := OwnN.of_row hr hp HM72.out (by omega)
          clear hr hp HMD
          have KP := power_any w3.heap.size 5 M k wr (hm.is 5 (Nat.le_refl _)) hk1 hk3
          have HKP := Lib.hid KP
          have LM := Lib.hid (IsN_below LL.out hbv)
          have HM := Lib.hid (IsN_below HHH.out hbv)
          have NM := Lib.hid (NN.out.below hbv)
          have BM := Lib.hid (BB.out.trans (hbv.mono BB.out.size))
          have MM := Lib.hid hm
          clear KP hm hbv
          go_wp2_with fail
          refine HKP.out.mono ?_
          rintro e w4 ⟨gp, cp, rfl, hpw, hb4⟩
          clear HKP
          have KL2 := rless_any (some ⟨w.heap.size, 0, none⟩) (some ⟨gp, 0, none⟩) (K + 1) (K + 1) (5 * k) cp N (M ^ k) w4 ((NM.out.below hb4).is (K + 1) (Nat.le_refl _)) hpw
          have LM4 := Lib.hid (fun q => IsN_below LM.out (below_drewN1 hb4 q))
          have HM4 := Lib.hid (fun q => IsN_below HM.out (below_drewN1 hb4 q))
          have NM4 := Lib.hid (fun q => NM.out.below (below_drewN1 hb4 q))
          have BM4 := Lib.hid (fun q => BM.out.trans ((below_drewN1 hb4 q).mono BM.out.size))
          have MM4 := Lib.hid (fun q => (MM.out.below (below_drewN1 hb4 q)).is 5 (Nat.le_refl _))
          clear LM HM NM BM MM hpw hb4
          by_cases hq : N < M ^ k
          · rw [decide_eq_true hq] at KL2
            have HKL2 := Lib.hid KL2
            have HQ := Lib.hid hq
            clear KL2 hq
            go_wp2_with fail
            refine HKL2.out.mono ?_
            rintro e w5 ⟨rfl, mq, rfl⟩
            clear HKL2
            go_wp2_with fail
            go_roundg (M - L)
            case rel => exact ⟨_, _, _, _, L, M, rfl, rfl, LM4.out mq, MM4.out mq, hM1.1, by omega, rfl, HLK.out, HQ.out, NM4.out mq, BM4.out mq⟩
            case measure => rw [HGK.out]; omega
          · rw [decide_eq_false hq] at KL2
            have HKL2 := Lib.hid KL2
            have HQ := Lib.hid (Nat.le_of_not_lt hq)
            clear KL2 hq
            go_wp2_with fail
            refine HKL2.out.mono ?_
            rintro e w5 ⟨rfl, mq, rfl⟩
            clear HKL2
            go_wp2_with fail
            go_roundg (H - M)
            case rel => exact ⟨_, _, _, _, M, H, rfl, rfl, MM4.out mq, HM4.out mq, hM1.2, hH, rfl, HQ.out, HHK.out, NM4.out mq, BM4.out mq⟩
            case measure => rw [HGK.out]; omega
    · rw [decide_eq_false hc] at KL
      have HKL := Lib.hid KL
      have hLH2 : L + 1 = H := by omega
      have HE := Lib.hid hLH2
      clear KL hc hLH2
      go_wp2_with fail
      refine HKL.out.mono ?_
      rintro e w2 ⟨rfl, nq, rfl⟩
      have KT := rto_any (some ⟨gl, 0, none⟩) 5 cl L 0 (w1.drewN nq) (L1.out nq) (by omega)
      have hL4 : L < B64 ^ 4 := Nat.lt_of_lt_of_le (by omega : L < T72) (by decide)
      rw [Nat.pow_zero, Nat.div_one, Nat.mod_eq_of_lt hL4, show numV L = .agg #[.int .u64 (wd L 0 : Int), .int .u64 (wd L 1 : Int), .int .u64 (wd L 2 : Int), .int .u64 (wd L 3 : Int)] from rfl] at KT
      have HKT := Lib.hid KT
      have ix : ∀ w3, (Instr.index 72 (.agg #[.int .u64 (wd L 0 : Int), .int .u64 (wd L 1 : Int), .int .u64 (wd L 2 : Int), .int .u64 (wd L 3 : Int)]) (.int .i64 0)).run Try.prog w3 = .ok (.int .u64 (wd L 0 : Int)) w3 := fun w3 => rfl
      have BQ := Lib.hid (B1.out nq)
      clear KT hL4 HKL L1 H1 N1 B1
      go_wp2_with fail
      refine HKT.out.mono ?_
      rintro e w3 ⟨rfl, hb3⟩
      go_wp2_with fail
      go_ret
      exact ⟨L, by omega, by rw [HND.out]; exact HLK.out, by rw [HND.out, HE.out]; exact HHK.out, rfl, BQ.out.trans (hb3.mono BQ.out.size)⟩
end Go.Proofs.Ytmjbhmpogpagjaa
