/- Buffers of layer 16: Write: what it answers. block.Buffer's Write of a slice that begins anywhere, or is empty (layer 16). -/
import Derived.Test.YtmjbhmpogpagjaaBlkQ
namespace Go.Proofs.Ytmjbhmpogpagjaa
set_option maxRecDepth 20000
set_option linter.unusedSimpArgs false
set_option linter.unusedVariables false
open Go.RowKit
theorem grown_setCell (w : World) (b i : Nat) (v : Value) : w.grownBy (w.setCell ⟨b, i, none⟩ v) (some b) :=
  ⟨rfl, rfl, rfl, by simp [World.setCell], fun k _ hk => Below.heap_setCell _ _ _ _ (fun e => hk (by simp [e]))⟩
theorem grown_setRow (w : World) (b : Nat) (cs : Array Value) : w.grownBy (w.setRow b cs) (some b) :=
  ⟨rfl, rfl, rfl, by simp [World.setRow], fun k _ hk => setRow_other w b k cs (fun e => hk (by simp [e]))⟩
theorem grown_refl (w : World) (o : Option Nat) : w.grownBy w o := ⟨rfl, rfl, rfl, Nat.le_refl _, fun _ _ _ => rfl⟩
theorem ba_size (L : List UInt8) : (⟨L.toArray⟩ : ByteArray).size = L.length := rfl
theorem take_flat {ss : List (List UInt8)} {j : Nat} (h : j < ss.length) : (ss.take (j + 1)).flatten = (ss.take j).flatten ++ ss[j] := by
  rw [List.take_add_one, List.getElem?_eq_getElem h, List.flatten_append]
  simp
theorem flat_le (ss : List (List UInt8)) (j : Nat) : (ss.take j).flatten.length ≤ ss.flatten.length := by
  conv => rhs; rw [← List.take_append_drop j ss, List.flatten_append, List.length_append]
  omega
theorem IsBuf.written {W : World} {g size wr : Nat} {q : List UInt8} (h : IsBuf W g size q wr) (n : Nat) : IsBuf (W.setCell ⟨g, 2, none⟩ (.int .i64 (n : Int))) g size q n := by
  obtain ⟨P, h1, h2, h3⟩ := h
  exact ⟨P, h1, h2, by have h := arr_set (i := 2) h3 (.int .i64 (n : Int)); rwa [bufL_set_wr] at h⟩
theorem own_far {w W' : World} {base g n : Nat} {e : TypeId} {v : Value} {xs : List Value} (h : w.ownsRow base e 1 v n xs) (hg : w.grownBy W' (some g)) (hlt : g < base) : W'.ownsRow base e 1 v n xs :=
  h.kept hg (.inr fun e1 => by have := (h.lt g e1).1; omega)
open Go.Lib in
theorem run_copy_min {P : Program} (w : World) (dT sT ty elem : TypeId) (g o dLen dCap n : Nat) (s : ByteArray) (cur : Array Value) (t : TypeId)
    (hu : P.underlying dT = some (.slice elem)) (hs : (P.info? elem).map (·.size) = some 1) (hg : w.heap[g]? = some (.cells cur t (0, 0))) (hn : Nat.min s.size dLen = n) (hfit : o + n ≤ cur.size) :
    (Builtin.copy_ #[dT, sT] ty #[.slice (some ⟨g, o, none⟩) dLen dCap, .string s]).run P w =
      .ok (goInt n) (w.setRow g (cur.toList.take o ++ byteCells (s.data.toList.take n) ++ cur.toList.drop (o + n)).toArray) := by
  have hle : n ≤ s.size := by rw [← hn]; exact Nat.min_le_left _ _
  have hlen : (byteCells (s.data.toList.take n)).length = n := by rw [byteCells_length, List.length_take, ← size_eq]; omega
  have hst := run_storeCells_at P g o t (byteCells (s.data.toList.take n)) 0 cur w hg (by rw [hlen]; simpa using hfit) (byteCells_one _)
  have htk : List.take n (List.map (fun b : UInt8 => Value.int IntKind.u8 (b.toNat : Int)) s.data.toList) = byteCells (s.data.toList.take n) := by
    rw [← List.map_take]
    rfl
  rw [hlen] at hst
  simp only [Nat.add_zero] at hst
  cases hq : P.info? elem with
  | none => simp [hq] at hs
  | some i =>
    simp [Builtin.copy_, run_underlying hu, Builtin.lenOf, Builtin.firstCells, sizeOf, typeInfo, hq, hn]
    rw [htk, hst]
    simp [Result.andThen]
/-- What is held when n bytes of r are copied behind the first f. -/
def heldN (P r : List UInt8) (f n : Nat) : List UInt8 := P.take f ++ r.take n ++ P.drop (f + n)
theorem heldN_len {P r : List UInt8} {f n : Nat} (hP : P.length = 256) (h : f + n ≤ 256) (hr : n ≤ r.length) : (heldN P r f n).length = 256 := by
  unfold heldN
  rw [List.length_append, List.length_append, List.length_take, List.length_take, List.length_drop]
  omega
theorem heldN_take {P r : List UInt8} {f n : Nat} (hP : P.length = 256) (h : f + n ≤ 256) (hr : n ≤ r.length) : (heldN P r f n).take (f + n) = P.take f ++ r.take n := by
  unfold heldN
  have e : (P.take f ++ r.take n).length = f + n := by rw [List.length_append, List.length_take, List.length_take]; omega
  conv => lhs; rw [← e]
  exact List.take_left' rfl
set_option maxRecDepth 20000 in
theorem copy_held {w : World} {g size f cw n : Nat} {P r : List UInt8} (h3 : w.heap[g]? = some (.cells (bufL size f cw P).toArray 62 (0, 0))) (hP : P.length = 256) (hf : f ≤ 256) (hsz : size ≤ 256) (hn : Nat.min r.length (size - f) = n) :
    (Builtin.copy_ #[51, 9] 3 #[.slice (some ⟨g, 3 + f, none⟩) (size - f) (256 - f), .string ⟨r.toArray⟩]).run Try.prog w = .ok (.int .i64 (n : Int)) (w.setRow g (bufL size f cw (heldN P r f n)).toArray) := by
  have hn2 : n ≤ size - f := by rw [← hn]; exact Nat.min_le_right _ _
  have e := run_copy_min (P := Try.prog) w 51 9 3 5 g (3 + f) (size - f) (256 - f) n ⟨r.toArray⟩ _ _ Try.underlying51 (by kernel_rfl) h3 hn (by rw [List.size_toArray, bufL_len hP]; omega)
  rw [e]
  congr 3
  unfold bufL heldN Go.Lib.byteCells
  rw [List.take_append, List.drop_append, List.map_append, List.map_append, List.map_take, List.map_take, List.map_drop]
  rw [List.take_of_length_le (by simp), List.drop_eq_nil_of_le (by simp; omega)]
  simp only [List.length_cons, List.length_nil]
  rw [show 3 + f - (0 + 1 + 1 + 1) = f by omega, show 3 + f + n - (0 + 1 + 1 + 1) = f + n by omega]
  simp only [List.nil_append, List.append_assoc, List.map_take]
  rfl
theorem Try.info_str : (Try.prog.info? 9).map (fun i => (i.zero, i.size, i.bytes)) = some (some (.string ByteArray.empty), 1, 16) := by kernel_rfl
theorem grown_own {w A B : World} {o r : Option Nat} (h : w.grownBy A o) (k : A.grownBy B r) (hr : ∀ x, r = some x → w.heap.size ≤ x) : w.grownBy B o :=
  ⟨k.os.trans h.os, k.tape.trans h.tape, k.output.trans h.output, Nat.le_trans h.size k.size, fun i hi hr' => (k.block i (Nat.lt_of_lt_of_le hi h.size) (by intro e; have := hr i e.symm; omega)).trans (h.block i hi hr')⟩
theorem grown_alloc (w : World) (x : Obj) (o : Option Nat) : w.grownBy (w.alloc x) o := ⟨rfl, rfl, rfl, by rw [show (w.alloc x).heap.size = w.heap.size + 1 from Array.size_push ..]; omega, fun i hi _ => Below.heap_alloc _ _ _ hi⟩
theorem IsBuf.emptied {W : World} {g size wr : Nat} {q : List UInt8} (h : IsBuf W g size q wr) : IsBuf (W.setCell ⟨g, 1, none⟩ (.int .i64 0)) g size [] wr := by
  obtain ⟨P, h1, h2, h3⟩ := h
  exact ⟨P, h1, rfl, by have h := arr_set (i := 1) h3 (.int .i64 ((0 : Nat) : Int)); rwa [bufL_set_fill] at h⟩
theorem flat_many {size : Nat} (h0 : 0 < size) : ∀ {bl : List (List UInt8)}, (∀ b ∈ bl, b.length = size) → bl.length ≤ bl.flatten.length
  | [], _ => by simp
  | b :: r, h => by
    have h1 := h b (by simp)
    have h2 := flat_many h0 (bl := r) fun x hx => h x (by simp [hx])
    rw [List.length_cons, List.flatten_cons, List.length_append]
    omega
theorem extract_str {r : List UInt8} {n : Nat} : Value.string ((⟨r.toArray⟩ : ByteArray).extract n r.length) = strV (r.drop n) := by
  unfold strV
  congr 1
  apply ByteArray.ext
  rw [ByteArray.data_extract]
  apply Array.ext'
  rw [Array.toList_extract, List.extract_eq_take_drop]
  exact List.take_of_length_le (by rw [List.length_drop]; exact Nat.le_refl _)
set_option maxHeartbeats 2000000 in
set_option maxRecDepth 20000 in
theorem write_any (g size wn b cap : Nat) (q : List UInt8) (ss : List (List UInt8)) (w : World) (h : IsBuf w g size q wn) (hq : q.length < size) (hsz : size ≤ 256)
    (hs : ∀ i, (hi : i < ss.length) → w.cell? ⟨b, i, none⟩ = some (strV ss[i])) (hbg : b ≠ g) (hss : ss.length ≤ 1000) (hn : wn + ss.flatten.length ≤ 1099511627776) :
    Calls Try.prog 17 #[.pointer (some ⟨g, 0, none⟩), .slice (some ⟨b, 0, none⟩) ss.length cap] w fun e w' => ∃ v bl q', e = .returned v ∧ w'.ownsRow w.heap.size 9 1 v bl.length (bl.map strV) ∧ Cuts size (q ++ ss.flatten) bl q' ∧ IsBuf w' g size q' (wn + ss.flatten.length) ∧ w.grownBy w' (some g) := by
  have H := Lib.hid h
  have HS := Lib.hid hs
  have HN1 := Lib.hid hn
  have HQ := Lib.hid hq
  have hg := h.lt
  have hb : b < w.heap.size ∨ ss.length = 0 := by
    rcases Nat.eq_zero_or_pos ss.length with h0 | h0
    · exact .inr h0
    · refine .inl (Nat.lt_of_not_le fun hle => ?_)
      have := hs 0 h0
      simp [World.cell?, Array.getElem?_eq_none hle] at this
  clear h hs hn hq
  go_enter Try.func17, Try.ntmps17
  go_wp2_with fail
  go_loopw [5, 13] (fun v i W => ∃ j : Nat, ∃ bl : List (List UInt8), ∃ q' : List UInt8, j ≤ ss.length ∧ i = .int .i64 (j : Int) ∧ W.ownsRow w.heap.size 9 1 v bl.length (bl.map strV) ∧ Cuts size (q ++ (ss.take j).flatten) bl q' ∧ IsBuf W g size q' (wn + (ss.take j).flatten.length) ∧ w.grownBy W (some g)) (fun _ i _ => ss.length - (intOf i).toNat)
  case atStart =>
    exact ⟨0, [], q, by omega, rfl, World.ownsRow_nil _ _ _ _, by simpa using Cuts.nil HQ.out, by simpa using H.out, grown_refl _ _⟩
  case round =>
    obtain ⟨j, bl, q', hj, rfl, hown, hcut, hbuf, hgr⟩ := hrel
    by_cases hlt : j < ss.length
    · have hbW : b < w.heap.size := by omega
      have ck : wr.cell? ⟨b, j, none⟩ = some (strV ss[j]) := by
        rw [← HS.out j hlt]
        exact World.cell?_of_block (w := w) (a := ⟨b, j, none⟩) (hgr.block b hbW (by simpa using hbg))
      obtain ⟨Q, hQ⟩ : ∃ Q, q ++ (ss.take (j + 1)).flatten = Q := ⟨_, rfl⟩
      have hQ2 : Q = bl.flatten ++ q' ++ ss[j] := by rw [← hQ, take_flat hlt, ← List.append_assoc, hcut.1]
      have hlen := flat_le ss (j + 1)
      have hn := HN1.out
      rw [take_flat hlt, List.length_append] at hlen
      have hfl : (ss.take (j + 1)).flatten.length = (ss.take j).flatten.length + ss[j].length := by rw [take_flat hlt, List.length_append]
      obtain ⟨c, hc⟩ : ∃ c, wn + (ss.take j).flatten.length = c := ⟨_, rfl⟩
      rw [hc] at hbuf
      have HF := Lib.hid (show wn + (ss.take (j + 1)).flatten.length = c + ss[j].length by omega)
      have hcs : c + ss[j].length ≤ 1099511627776 := by omega
      generalize ss[j] = s at *
      obtain ⟨S, hS⟩ : ∃ S : ByteArray, S = ⟨s.toArray⟩ := ⟨_, rfl⟩
      have hSz : S.size = s.length := by rw [hS]; rfl
      rw [show strV s = .string S by rw [hS]; rfl] at ck
      have HB := Lib.hid (hbuf.written (c + s.length))
      obtain ⟨P, hP1, hP2, hP3⟩ := id hbuf
      obtain ⟨cw, hcw⟩ : ∃ cw, c + s.length = cw := ⟨_, rfl⟩
      obtain ⟨c2, f2⟩ := arr_get hP3 bufL_get.2.2
      have HG := Lib.hid (grown_step hgr (grown_setCell wr g 2 (.int .i64 ((c + s.length : Nat) : Int))))
      have HO := Lib.hid (own_far hown (grown_setCell wr g 2 (.int .i64 ((c + s.length : Nat) : Int))) hg)
      have HQ2 := Lib.hid hQ2
      have HQ1 := Lib.hid hQ
      have HCU := Lib.hid hcut
      have HS2 := Lib.hid hS
      have i1 : (c : Int) + (s.length : Int) = (cw : Int) := by omega
      have i2 : cw ≤ 1099511627776 := by omega
      have i3 : IntKind.i64.wrap ((c : Int) + (s.length : Int)) = (cw : Int) := by rw [i1]; exact IntWalk.i64_in _ (by omega)
      have HC := Lib.hid hcw
      rw [hcw] at HB HG HO HF
      clear hbuf hcut hown hgr hP1 hP2 hP3 hQ2 hlen hn hfl hc hcs hS hQ hcw
      go_wp2_with fail
      generalize wr.setCell ⟨g, 2, none⟩ (.int .i64 (cw : Int)) = W1 at *
      clear ck c2 f2 hSz i1 i3
      go_loopw [5, 7] (fun v x W => ∃ Bl : List (List UInt8), ∃ q2 r : List UInt8, x = strV r ∧ Q = Bl.flatten ++ q2 ++ r ∧ (∀ b ∈ Bl, b.length = size) ∧ q2.length < size ∧ W.ownsRow w.heap.size 9 1 v Bl.length (Bl.map strV) ∧ IsBuf W g size q2 cw ∧ w.grownBy W (some g)) (fun _ x _ => match x with | .string S => S.size | _ => 0)
      case atStart =>
        exact ⟨bl, q', s, by rw [HS2.out]; rfl, HQ2.out, HCU.out.2.1, HCU.out.2.2, HO.out, HB.out, HG.out⟩
      case round =>
        clear HQ2 HCU HO HB HG HS2
        obtain ⟨Bl, q2, r, rfl, hQ, hall, hq2, hown, hbuf, hgr⟩ := hrel
        obtain ⟨R, hR⟩ : ∃ R : ByteArray, R = ⟨r.toArray⟩ := ⟨_, rfl⟩
        have hRz : R.size = r.length := by rw [hR]; rfl
        rw [show strV r = .string R by rw [hR]; rfl]
        have HB := Lib.hid hbuf
        have HO := Lib.hid hown
        have HG := Lib.hid hgr
        have HQ2 := Lib.hid hQ
        have HA := Lib.hid hall
        have HR := Lib.hid hR
        by_cases hr0 : r.length = 0
        · clear hbuf hown hgr hQ hall hR
          go_wp2_with fail
          go_roundw
          case rel =>
            have e0 : r = [] := List.length_eq_zero_iff.1 hr0
            have hq4 := HQ2.out
            rw [e0, List.append_nil] at hq4
            exact ⟨j + 1, Bl, q2, by omega, rfl, HO.out, ⟨HQ1.out.trans hq4, HA.out, hq2⟩, by rw [HF.out]; exact HB.out, HG.out⟩
          case measure =>
            simp [intOf]
            omega
        · have hr1 : 0 < (r.length : Int) := by omega
          obtain ⟨P, hP1, hP2, hP3⟩ := hbuf
          obtain ⟨c0, f0⟩ := arr_get hP3 bufL_get.1
          obtain ⟨c1, f1⟩ := arr_get hP3 bufL_get.2.1
          generalize hf : q2.length = f at *
          have i5 : (f : Int) ≤ (size : Int) := by omega
          have i6 : (size : Int) ≤ 256 := by omega
          obtain ⟨n, hn⟩ : ∃ n, Nat.min r.length (size - f) = n := ⟨_, rfl⟩
          have hn1 : n ≤ r.length := by rw [← hn]; exact Nat.min_le_left _ _
          have hn2 : n ≤ size - f := by rw [← hn]; exact Nat.min_le_right _ _
          have kc := copy_held (w := wr.drew) hP3 hP1 (by omega) hsz hn
          rw [← hR] at kc
          have i7 : ¬ 256 = f := by omega
          have hb2 := setRow_heap wr.drew g _ (bufL size f cw (heldN P r f n)).toArray _ _ hP3
          have HP1 := Lib.hid (heldN_len hP1 (show f + n ≤ 256 by omega) hn1)
          have HP2 := Lib.hid (heldN_take (r := r) hP1 (show f + n ≤ 256 by omega) hn1)
          rw [hP2] at HP2
          have HG2 := Lib.hid (grown_step (grown_step hgr (grown_drew wr (some g))) (grown_setRow wr.drew g (bufL size f cw (heldN P r f n)).toArray))
          have HO2 := Lib.hid (own_far (own_far hown (grown_drew wr (some g)) hg) (grown_setRow wr.drew g (bufL size f cw (heldN P r f n)).toArray) hg)
          generalize heldN P r f n = P2 at *
          have HN := Lib.hid hn
          clear hown hgr hQ hall hR hP1 hP2 hP3 hr0 f0 f1 HB HO HG hn
          go_wp2_with fail
          go_region
          go_wp2_with fail
          clear kc c0 c1
          generalize wr.drew.setRow g (bufL size f cw P2).toArray = W2 at *
          obtain ⟨f2, hf2⟩ : ∃ f2, f + n = f2 := ⟨_, rfl⟩
          have hl2 : (q2 ++ r.take n).length = f2 := by rw [List.length_append, List.length_take]; omega
          obtain ⟨c1, g1⟩ := arr_get hb2 bufL_get.2.1
          obtain ⟨c0, g0⟩ := arr_get hb2 bufL_get.1
          have HB3 : Hid (IsBuf (W2.drew.setCell ⟨g, 1, none⟩ (.int .i64 (f2 : Int))) g size (q2 ++ r.take n) cw) := ⟨P2, HP1.out, by rw [hl2, ← hf2]; exact HP2.out, by
            have h := arr_set (i := 1) (show W2.drew.heap[g]? = _ from hb2) (.int .i64 (f2 : Int))
            rw [bufL_set_fill] at h
            rw [hl2]
            exact h⟩
          have HG3 := Lib.hid (grown_step (grown_step HG2.out (grown_drew W2 (some g))) (grown_setCell W2.drew g 1 (.int .i64 (f2 : Int))))
          have HO3 := Lib.hid (own_far (own_far HO2.out (grown_drew W2 (some g)) hg) (grown_setCell W2.drew g 1 (.int .i64 (f2 : Int))) hg)
          have i8 : (f : Int) + (n : Int) = (f2 : Int) := by omega
          have i9 : IntKind.i64.wrap ((f : Int) + (n : Int)) = (f2 : Int) := by rw [i8]; exact IntWalk.i64_in _ (by omega)
          have i10 : (n : Int) ≤ (r.length : Int) := by omega
          have i11 : (0 : Int) ≤ (n : Int) := by omega
          clear HG2 HO2 hb2 HP1 HP2
          change Hid (IsBuf (W2.setCell ⟨g, 1, none⟩ (.int .i64 (f2 : Int))).drew g size (q2 ++ r.take n) cw) at HB3
          change Hid (w.grownBy (W2.setCell ⟨g, 1, none⟩ (.int .i64 (f2 : Int))).drew (some g)) at HG3
          change Hid ((W2.setCell ⟨g, 1, none⟩ (.int .i64 (f2 : Int))).drew.ownsRow w.heap.size 9 1 u5 Bl.length (Bl.map strV)) at HO3
          go_region
          go_wp2_with fail
          generalize (W2.setCell ⟨g, 1, none⟩ (.int .i64 (f2 : Int))).drew = W3 at *
          clear c1 g1 c0 g0 i8 i9
          rw [show R.extract n r.length = (⟨r.toArray⟩ : ByteArray).extract n r.length by rw [HR.out], extract_str]
          obtain ⟨P3, hP1, hP2, hP3⟩ := id HB3.out
          rw [hl2] at hP3
          obtain ⟨c0, f0⟩ := arr_get hP3 bufL_get.1
          obtain ⟨c1, f1⟩ := arr_get hP3 bufL_get.2.1
          have HD := Lib.hid (show r.take n ++ r.drop n = r from List.take_append_drop n r)
          generalize hq3 : q2 ++ r.take n = q3 at *
          have HQ3 : Hid (Q = Bl.flatten ++ q3 ++ r.drop n) := by
            show Q = _
            have hd := HD.out
            rw [HQ2.out, ← hq3]
            simp only [List.append_assoc, hd]
          have hrd : (r.drop n).length = r.length - n := List.length_drop
          have hn0 : 0 < n := by have := HN.out; rw [← this]; exact Nat.lt_min.2 ⟨by omega, by omega⟩
          generalize r.drop n = r3 at *
          clear hP1 hP2 hP3 HQ2 HD hq3
          by_cases hfs : f2 = size
          · subst hfs
            go_region
            go_wp2_with fail
            refine (rest_any g f2 cw q3 W3.drew HB3.out (by omega)).mono ?_
            rintro e w5 ⟨rfl, rfl⟩
            have kcv := rest_conv (w := W3.drew.drew) HB3.out (by omega)
            have hm := flat_many (by omega) HA.out
            have hql : Bl.flatten.length ≤ 1099511627776 + 256 := by
              have h1 := congrArg List.length HQ3.out
              have h2 := congrArg List.length HQ1.out
              have h3 := HN1.out
              have h4 := flat_le ss (j + 1)
              have h5 := HQ.out
              simp only [List.length_append] at h1 h2
              omega
            have hown := own_far HO3.out (grown_step (grown_drew W3 (some g)) (grown_drew W3.drew (some g))) hg
            have hgr := grown_step HG3.out (grown_step (grown_drew W3 (some g)) (grown_drew W3.drew (some g)))
            obtain ⟨i0, hi, hz0, hz1, hz2⟩ := info_parts Try.info_str
            have hB4 : IsBuf W3.drew.drew g f2 q3 cw := HB3.out
            generalize W3.drew.drew = W4 at *
            rw [hl2] at kcv
            have hws : w.heap.size ≤ W4.heap.size := hgr.size
            clear c0 f0 c1 f1 HO3 HG3 HB3
            obtain ⟨X, hX⟩ : ∃ X, strV q3 = .string X := ⟨_, rfl⟩
            rw [hX] at kcv
            have HX := Lib.hid hX
            have hne : u5.ownBlock ≠ some g := fun e1 => by have := (hown.lt g e1).1; omega
            have HE := Lib.hid hne
            have hsa : (W4.alloc (.cells #[.string X] 9)).heap.size = W4.heap.size + 1 := Array.size_push ..
            have HSA := Lib.hid hsa
            have HOL := Lib.hid hown.lt
            clear hX hne hsa
            go_wp2_with (at_builtin; refine wpList_append_own _ rfl (.tmp 64) (.tmp 68) 22 rfl w.heap.size 9 i0 (.string ByteArray.empty) 1 16 Try.underlying22 hi hz0 hz1 hz2 rfl (by decide) u5 Bl.length _ (by simp [Act.eval]) (by exact hown.alloc _) ⟨W4.heap.size, 0, none⟩ 1 1 [.string X] (by simp [Act.eval]) rfl (by exact news_new W4 #[_] _) (by simp [Value.oneCell']) (by unfold maxLen; omega) (by omega) (by show _ ≤ (W4.heap.push _).size; rw [Array.size_push]; omega) ?_; intro v6 w6 hown6 hgr6 _; have hB6 : IsBuf w6 g f2 q3 cw := hB4.of_block ((hgr6.block g (by have := HSA.out; have := hB4.lt; omega) (fun e1 => HE.out e1.symm)).trans (Below.heap_alloc _ _ _ hB4.lt)); have hgr7 := grown_own (grown_step hgr (grown_alloc W4 (.cells #[.string X] 9) (some g))) hgr6 (fun x hx => (HOL.out x hx).1); obtain ⟨P6, h61, h62, h63⟩ := id hB6; obtain ⟨c6, e6⟩ := arr_get h63 bufL_get.2.1; clear h61 h62 h63 hgr6 hgr hown)
            have hown7 : w6.ownsRow w.heap.size 9 1 v6 (Bl ++ [q3]).length ((Bl ++ [q3]).map strV) := by
              rw [List.length_append, List.map_append, List.map_cons, List.map_nil, HX.out]
              exact hown6
            go_roundw
            case rel =>
              refine ⟨Bl ++ [q3], [], r3, rfl, ?_, ?_, by show 0 < f2; omega, own_far hown7 (grown_setCell w6 g 1 (.int .i64 0)) hg, hB6.emptied, grown_step hgr7 (grown_setCell w6 g 1 (.int .i64 0))⟩
              · rw [HQ3.out]; simp
              · intro x hx
                rcases List.mem_append.1 hx with hx | hx
                · exact HA.out x hx
                · have e : x = q3 := by simpa using hx
                  rw [e]; exact hl2
            case measure =>
              show (⟨r3.toArray⟩ : ByteArray).size < R.size
              rw [hRz, ba_size]
              omega
          · have k1 : ¬ (f2 : Int) = (size : Int) := by omega
            go_region
            go_wp2_with fail
            go_roundw
            case rel => exact ⟨Bl, q3, r3, rfl, HQ3.out, HA.out, by omega, own_far HO3.out (grown_drew W3 (some g)) hg, HB3.out, grown_step HG3.out (grown_drew W3 (some g))⟩
            case measure => 
              show (⟨r3.toArray⟩ : ByteArray).size < R.size
              rw [hRz, ba_size]
              omega
    · have e1 : j = ss.length := by omega
      subst e1
      rw [List.take_length] at hcut hbuf
      have HO := Lib.hid hown
      have HC := Lib.hid hcut
      have HB := Lib.hid hbuf
      have HG := Lib.hid hgr
      clear hown hcut hbuf hgr
      go_wp2_with fail
      go_ret
      exact ⟨u5, bl, q', rfl, HO.out, HC.out, HB.out, HG.out⟩
end Go.Proofs.Ytmjbhmpogpagjaa
namespace Go.Proofs.Ytmjbhmpogpagjaa
open Go.RowKit
set_option maxHeartbeats 2000000 in
set_option maxRecDepth 20000 in
theorem write_off (g size wn b off cap : Nat) (q : List UInt8) (ss : List (List UInt8)) (w : World) (h : IsBuf w g size q wn) (hq : q.length < size) (hsz : size ≤ 256)
    (hs : ∀ i, (hi : i < ss.length) → w.cell? ⟨b, off + i, none⟩ = some (strV ss[i])) (hbg : b ≠ g) (hss : ss.length ≤ 1000) (hn : wn + ss.flatten.length ≤ 1099511627776) :
    Calls Try.prog 17 #[.pointer (some ⟨g, 0, none⟩), .slice (some ⟨b, off, none⟩) ss.length cap] w fun e w' => ∃ v bl q', e = .returned v ∧ w'.ownsRow w.heap.size 9 1 v bl.length (bl.map strV) ∧ Cuts size (q ++ ss.flatten) bl q' ∧ IsBuf w' g size q' (wn + ss.flatten.length) ∧ w.grownBy w' (some g) := by
  have H := Lib.hid h
  have HS := Lib.hid hs
  have HN1 := Lib.hid hn
  have HQ := Lib.hid hq
  have hg := h.lt
  have hb : b < w.heap.size ∨ ss.length = 0 := by
    rcases Nat.eq_zero_or_pos ss.length with h0 | h0
    · exact .inr h0
    · refine .inl (Nat.lt_of_not_le fun hle => ?_)
      have := hs 0 h0
      simp [World.cell?, Array.getElem?_eq_none hle] at this
  clear h hs hn hq
  go_enter Try.func17, Try.ntmps17
  go_wp2_with fail
  go_loopw [5, 13] (fun v i W => ∃ j : Nat, ∃ bl : List (List UInt8), ∃ q' : List UInt8, j ≤ ss.length ∧ i = .int .i64 (j : Int) ∧ W.ownsRow w.heap.size 9 1 v bl.length (bl.map strV) ∧ Cuts size (q ++ (ss.take j).flatten) bl q' ∧ IsBuf W g size q' (wn + (ss.take j).flatten.length) ∧ w.grownBy W (some g)) (fun _ i _ => ss.length - (intOf i).toNat)
  case atStart =>
    exact ⟨0, [], q, by omega, rfl, World.ownsRow_nil _ _ _ _, by simpa using Cuts.nil HQ.out, by simpa using H.out, grown_refl _ _⟩
  case round =>
    obtain ⟨j, bl, q', hj, rfl, hown, hcut, hbuf, hgr⟩ := hrel
    by_cases hlt : j < ss.length
    · have hbW : b < w.heap.size := by omega
      have ck : wr.cell? ⟨b, off + j, none⟩ = some (strV ss[j]) := by
        rw [← HS.out j hlt]
        exact World.cell?_of_block (w := w) (a := ⟨b, off + j, none⟩) (hgr.block b hbW (by simpa using hbg))
      obtain ⟨Q, hQ⟩ : ∃ Q, q ++ (ss.take (j + 1)).flatten = Q := ⟨_, rfl⟩
      have hQ2 : Q = bl.flatten ++ q' ++ ss[j] := by rw [← hQ, take_flat hlt, ← List.append_assoc, hcut.1]
      have hlen := flat_le ss (j + 1)
      have hn := HN1.out
      rw [take_flat hlt, List.length_append] at hlen
      have hfl : (ss.take (j + 1)).flatten.length = (ss.take j).flatten.length + ss[j].length := by rw [take_flat hlt, List.length_append]
      obtain ⟨c, hc⟩ : ∃ c, wn + (ss.take j).flatten.length = c := ⟨_, rfl⟩
      rw [hc] at hbuf
      have HF := Lib.hid (show wn + (ss.take (j + 1)).flatten.length = c + ss[j].length by omega)
      have hcs : c + ss[j].length ≤ 1099511627776 := by omega
      generalize ss[j] = s at *
      obtain ⟨S, hS⟩ : ∃ S : ByteArray, S = ⟨s.toArray⟩ := ⟨_, rfl⟩
      have hSz : S.size = s.length := by rw [hS]; rfl
      rw [show strV s = .string S by rw [hS]; rfl] at ck
      have HB := Lib.hid (hbuf.written (c + s.length))
      obtain ⟨P, hP1, hP2, hP3⟩ := id hbuf
      obtain ⟨cw, hcw⟩ : ∃ cw, c + s.length = cw := ⟨_, rfl⟩
      obtain ⟨c2, f2⟩ := arr_get hP3 bufL_get.2.2
      have HG := Lib.hid (grown_step hgr (grown_setCell wr g 2 (.int .i64 ((c + s.length : Nat) : Int))))
      have HO := Lib.hid (own_far hown (grown_setCell wr g 2 (.int .i64 ((c + s.length : Nat) : Int))) hg)
      have HQ2 := Lib.hid hQ2
      have HQ1 := Lib.hid hQ
      have HCU := Lib.hid hcut
      have HS2 := Lib.hid hS
      have i1 : (c : Int) + (s.length : Int) = (cw : Int) := by omega
      have i2 : cw ≤ 1099511627776 := by omega
      have i3 : IntKind.i64.wrap ((c : Int) + (s.length : Int)) = (cw : Int) := by rw [i1]; exact IntWalk.i64_in _ (by omega)
      have HC := Lib.hid hcw
      rw [hcw] at HB HG HO HF
      clear hbuf hcut hown hgr hP1 hP2 hP3 hQ2 hlen hn hfl hc hcs hS hQ hcw
      go_wp2_with fail
      generalize wr.setCell ⟨g, 2, none⟩ (.int .i64 (cw : Int)) = W1 at *
      clear ck c2 f2 hSz i1 i3
      go_loopw [5, 7] (fun v x W => ∃ Bl : List (List UInt8), ∃ q2 r : List UInt8, x = strV r ∧ Q = Bl.flatten ++ q2 ++ r ∧ (∀ b ∈ Bl, b.length = size) ∧ q2.length < size ∧ W.ownsRow w.heap.size 9 1 v Bl.length (Bl.map strV) ∧ IsBuf W g size q2 cw ∧ w.grownBy W (some g)) (fun _ x _ => match x with | .string S => S.size | _ => 0)
      case atStart =>
        exact ⟨bl, q', s, by rw [HS2.out]; rfl, HQ2.out, HCU.out.2.1, HCU.out.2.2, HO.out, HB.out, HG.out⟩
      case round =>
        clear HQ2 HCU HO HB HG HS2
        obtain ⟨Bl, q2, r, rfl, hQ, hall, hq2, hown, hbuf, hgr⟩ := hrel
        obtain ⟨R, hR⟩ : ∃ R : ByteArray, R = ⟨r.toArray⟩ := ⟨_, rfl⟩
        have hRz : R.size = r.length := by rw [hR]; rfl
        rw [show strV r = .string R by rw [hR]; rfl]
        have HB := Lib.hid hbuf
        have HO := Lib.hid hown
        have HG := Lib.hid hgr
        have HQ2 := Lib.hid hQ
        have HA := Lib.hid hall
        have HR := Lib.hid hR
        by_cases hr0 : r.length = 0
        · clear hbuf hown hgr hQ hall hR
          go_wp2_with fail
          go_roundw
          case rel =>
            have e0 : r = [] := List.length_eq_zero_iff.1 hr0
            have hq4 := HQ2.out
            rw [e0, List.append_nil] at hq4
            exact ⟨j + 1, Bl, q2, by omega, rfl, HO.out, ⟨HQ1.out.trans hq4, HA.out, hq2⟩, by rw [HF.out]; exact HB.out, HG.out⟩
          case measure =>
            simp [intOf]
            omega
        · have hr1 : 0 < (r.length : Int) := by omega
          obtain ⟨P, hP1, hP2, hP3⟩ := hbuf
          obtain ⟨c0, f0⟩ := arr_get hP3 bufL_get.1
          obtain ⟨c1, f1⟩ := arr_get hP3 bufL_get.2.1
          generalize hf : q2.length = f at *
          have i5 : (f : Int) ≤ (size : Int) := by omega
          have i6 : (size : Int) ≤ 256 := by omega
          obtain ⟨n, hn⟩ : ∃ n, Nat.min r.length (size - f) = n := ⟨_, rfl⟩
          have hn1 : n ≤ r.length := by rw [← hn]; exact Nat.min_le_left _ _
          have hn2 : n ≤ size - f := by rw [← hn]; exact Nat.min_le_right _ _
          have kc := copy_held (w := wr.drew) hP3 hP1 (by omega) hsz hn
          rw [← hR] at kc
          have i7 : ¬ 256 = f := by omega
          have hb2 := setRow_heap wr.drew g _ (bufL size f cw (heldN P r f n)).toArray _ _ hP3
          have HP1 := Lib.hid (heldN_len hP1 (show f + n ≤ 256 by omega) hn1)
          have HP2 := Lib.hid (heldN_take (r := r) hP1 (show f + n ≤ 256 by omega) hn1)
          rw [hP2] at HP2
          have HG2 := Lib.hid (grown_step (grown_step hgr (grown_drew wr (some g))) (grown_setRow wr.drew g (bufL size f cw (heldN P r f n)).toArray))
          have HO2 := Lib.hid (own_far (own_far hown (grown_drew wr (some g)) hg) (grown_setRow wr.drew g (bufL size f cw (heldN P r f n)).toArray) hg)
          generalize heldN P r f n = P2 at *
          have HN := Lib.hid hn
          clear hown hgr hQ hall hR hP1 hP2 hP3 hr0 f0 f1 HB HO HG hn
          go_wp2_with fail
          go_region
          go_wp2_with fail
          clear kc c0 c1
          generalize wr.drew.setRow g (bufL size f cw P2).toArray = W2 at *
          obtain ⟨f2, hf2⟩ : ∃ f2, f + n = f2 := ⟨_, rfl⟩
          have hl2 : (q2 ++ r.take n).length = f2 := by rw [List.length_append, List.length_take]; omega
          obtain ⟨c1, g1⟩ := arr_get hb2 bufL_get.2.1
          obtain ⟨c0, g0⟩ := arr_get hb2 bufL_get.1
          have HB3 : Hid (IsBuf (W2.drew.setCell ⟨g, 1, none⟩ (.int .i64 (f2 : Int))) g size (q2 ++ r.take n) cw) := ⟨P2, HP1.out, by rw [hl2, ← hf2]; exact HP2.out, by
            have h := arr_set (i := 1) (show W2.drew.heap[g]? = _ from hb2) (.int .i64 (f2 : Int))
            rw [bufL_set_fill] at h
            rw [hl2]
            exact h⟩
          have HG3 := Lib.hid (grown_step (grown_step HG2.out (grown_drew W2 (some g))) (grown_setCell W2.drew g 1 (.int .i64 (f2 : Int))))
          have HO3 := Lib.hid (own_far (own_far HO2.out (grown_drew W2 (some g)) hg) (grown_setCell W2.drew g 1 (.int .i64 (f2 : Int))) hg)
          have i8 : (f : Int) + (n : Int) = (f2 : Int) := by omega
          have i9 : IntKind.i64.wrap ((f : Int) + (n : Int)) = (f2 : Int) := by rw [i8]; exact IntWalk.i64_in _ (by omega)
          have i10 : (n : Int) ≤ (r.length : Int) := by omega
          have i11 : (0 : Int) ≤ (n : Int) := by omega
          clear HG2 HO2 hb2 HP1 HP2
          change Hid (IsBuf (W2.setCell ⟨g, 1, none⟩ (.int .i64 (f2 : Int))).drew g size (q2 ++ r.take n) cw) at HB3
          change Hid (w.grownBy (W2.setCell ⟨g, 1, none⟩ (.int .i64 (f2 : Int))).drew (some g)) at HG3
          change Hid ((W2.setCell ⟨g, 1, none⟩ (.int .i64 (f2 : Int))).drew.ownsRow w.heap.size 9 1 u5 Bl.length (Bl.map strV)) at HO3
          go_region
          go_wp2_with fail
          generalize (W2.setCell ⟨g, 1, none⟩ (.int .i64 (f2 : Int))).drew = W3 at *
          clear c1 g1 c0 g0 i8 i9
          rw [show R.extract n r.length = (⟨r.toArray⟩ : ByteArray).extract n r.length by rw [HR.out], extract_str]
          obtain ⟨P3, hP1, hP2, hP3⟩ := id HB3.out
          rw [hl2] at hP3
          obtain ⟨c0, f0⟩ := arr_get hP3 bufL_get.1
          obtain ⟨c1, f1⟩ := arr_get hP3 bufL_get.2.1
          have HD := Lib.hid (show r.take n ++ r.drop n = r from List.take_append_drop n r)
          generalize hq3 : q2 ++ r.take n = q3 at *
          have HQ3 : Hid (Q = Bl.flatten ++ q3 ++ r.drop n) := by
            show Q = _
            have hd := HD.out
            rw [HQ2.out, ← hq3]
            simp only [List.append_assoc, hd]
          have hrd : (r.drop n).length = r.length - n := List.length_drop
          have hn0 : 0 < n := by have := HN.out; rw [← this]; exact Nat.lt_min.2 ⟨by omega, by omega⟩
          generalize r.drop n = r3 at *
          clear hP1 hP2 hP3 HQ2 HD hq3
          by_cases hfs : f2 = size
          · subst hfs
            go_region
            go_wp2_with fail
            refine (rest_any g f2 cw q3 W3.drew HB3.out (by omega)).mono ?_
            rintro e w5 ⟨rfl, rfl⟩
            have kcv := rest_conv (w := W3.drew.drew) HB3.out (by omega)
            have hm := flat_many (by omega) HA.out
            have hql : Bl.flatten.length ≤ 1099511627776 + 256 := by
              have h1 := congrArg List.length HQ3.out
              have h2 := congrArg List.length HQ1.out
              have h3 := HN1.out
              have h4 := flat_le ss (j + 1)
              have h5 := HQ.out
              simp only [List.length_append] at h1 h2
              omega
            have hown := own_far HO3.out (grown_step (grown_drew W3 (some g)) (grown_drew W3.drew (some g))) hg
            have hgr := grown_step HG3.out (grown_step (grown_drew W3 (some g)) (grown_drew W3.drew (some g)))
            obtain ⟨i0, hi, hz0, hz1, hz2⟩ := info_parts Try.info_str
            have hB4 : IsBuf W3.drew.drew g f2 q3 cw := HB3.out
            generalize W3.drew.drew = W4 at *
            rw [hl2] at kcv
            have hws : w.heap.size ≤ W4.heap.size := hgr.size
            clear c0 f0 c1 f1 HO3 HG3 HB3
            obtain ⟨X, hX⟩ : ∃ X, strV q3 = .string X := ⟨_, rfl⟩
            rw [hX] at kcv
            have HX := Lib.hid hX
            have hne : u5.ownBlock ≠ some g := fun e1 => by have := (hown.lt g e1).1; omega
            have HE := Lib.hid hne
            have hsa : (W4.alloc (.cells #[.string X] 9)).heap.size = W4.heap.size + 1 := Array.size_push ..
            have HSA := Lib.hid hsa
            have HOL := Lib.hid hown.lt
            clear hX hne hsa
            go_wp2_with (at_builtin; refine wpList_append_own _ rfl (.tmp 64) (.tmp 68) 22 rfl w.heap.size 9 i0 (.string ByteArray.empty) 1 16 Try.underlying22 hi hz0 hz1 hz2 rfl (by decide) u5 Bl.length _ (by simp [Act.eval]) (by exact hown.alloc _) ⟨W4.heap.size, 0, none⟩ 1 1 [.string X] (by simp [Act.eval]) rfl (by exact news_new W4 #[_] _) (by simp [Value.oneCell']) (by unfold maxLen; omega) (by omega) (by show _ ≤ (W4.heap.push _).size; rw [Array.size_push]; omega) ?_; intro v6 w6 hown6 hgr6 _; have hB6 : IsBuf w6 g f2 q3 cw := hB4.of_block ((hgr6.block g (by have := HSA.out; have := hB4.lt; omega) (fun e1 => HE.out e1.symm)).trans (Below.heap_alloc _ _ _ hB4.lt)); have hgr7 := grown_own (grown_step hgr (grown_alloc W4 (.cells #[.string X] 9) (some g))) hgr6 (fun x hx => (HOL.out x hx).1); obtain ⟨P6, h61, h62, h63⟩ := id hB6; obtain ⟨c6, e6⟩ := arr_get h63 bufL_get.2.1; clear h61 h62 h63 hgr6 hgr hown)
            have hown7 : w6.ownsRow w.heap.size 9 1 v6 (Bl ++ [q3]).length ((Bl ++ [q3]).map strV) := by
              rw [List.length_append, List.map_append, List.map_cons, List.map_nil, HX.out]
              exact hown6
            go_roundw
            case rel =>
              refine ⟨Bl ++ [q3], [], r3, rfl, ?_, ?_, by show 0 < f2; omega, own_far hown7 (grown_setCell w6 g 1 (.int .i64 0)) hg, hB6.emptied, grown_step hgr7 (grown_setCell w6 g 1 (.int .i64 0))⟩
              · rw [HQ3.out]; simp
              · intro x hx
                rcases List.mem_append.1 hx with hx | hx
                · exact HA.out x hx
                · have e : x = q3 := by simpa using hx
                  rw [e]; exact hl2
            case measure =>
              show (⟨r3.toArray⟩ : ByteArray).size < R.size
              rw [hRz, ba_size]
              omega
          · have k1 : ¬ (f2 : Int) = (size : Int) := by omega
            go_region
            go_wp2_with fail
            go_roundw
            case rel => exact ⟨Bl, q3, r3, rfl, HQ3.out, HA.out, by omega, own_far HO3.out (grown_drew W3 (some g)) hg, HB3.out, grown_step HG3.out (grown_drew W3 (some g))⟩
            case measure => 
              show (⟨r3.toArray⟩ : ByteArray).size < R.size
              rw [hRz, ba_size]
              omega
    · have e1 : j = ss.length := by omega
      subst e1
      rw [List.take_length] at hcut hbuf
      have HO := Lib.hid hown
      have HC := Lib.hid hcut
      have HB := Lib.hid hbuf
      have HG := Lib.hid hgr
      clear hown hcut hbuf hgr
      go_wp2_with fail
      go_ret
      exact ⟨u5, bl, q', rfl, HO.out, HC.out, HB.out, HG.out⟩
theorem write_zero (g size wn cap : Nat) (a : Option Addr) (w : World) : Calls Try.prog 17 #[.pointer (some ⟨g, 0, none⟩), .slice a 0 cap] w fun e w' => e = .returned (.slice none 0 0) ∧ w = w' := by
  go_enter Try.func17, Try.ntmps17
  go_wp2_with fail
  refine wp_loop_rounds 1 ?_
  rw [rounds_succ]
  go_wp2
  go_ret
  exact ⟨rfl, rfl⟩
theorem bwrite_any (g size wn cap : Nat) (a : Option Addr) (q : List UInt8) (ss : List (List UInt8)) (w : World) (h : IsBuf w g size q wn) (hq : q.length < size) (hsz : size ≤ 256)
    (hs : ss = [] ∨ ∃ b off, a = some ⟨b, off, none⟩ ∧ b ≠ g ∧ ∀ i, (hi : i < ss.length) → w.cell? ⟨b, off + i, none⟩ = some (strV ss[i])) (hss : ss.length ≤ 1000) (hn : wn + ss.flatten.length ≤ 1099511627776) :
    Calls Try.prog 17 #[.pointer (some ⟨g, 0, none⟩), .slice a ss.length cap] w fun e w' => ∃ v bl q', e = .returned v ∧ w'.ownsRow w.heap.size 9 1 v bl.length (bl.map strV) ∧ Cuts size (q ++ ss.flatten) bl q' ∧ IsBuf w' g size q' (wn + ss.flatten.length) ∧ w.grownBy w' (some g) := by
  rcases hs with rfl | ⟨b, off, rfl, hbg, hc⟩
  · refine (write_zero g size wn cap a w).mono ?_
    rintro e w' ⟨rfl, rfl⟩
    exact ⟨_, [], q, rfl, World.ownsRow_nil _ _ _ _, by simpa using Cuts.nil hq, by simpa using h, grown_refl _ _⟩
  · exact write_off g size wn b off cap q ss w h hq hsz hc hbg hss hn
end Go.Proofs.Ytmjbhmpogpagjaa
