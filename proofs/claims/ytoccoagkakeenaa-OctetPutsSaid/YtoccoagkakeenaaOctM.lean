/- The law OctetPuts: it returns true. -/
import Derived.Test.YtoccoagkakeenaaOctL
namespace Go.Proofs.Ytoccoagkakeenaa
open Go.RowKit
/-- Words' bytes as texts, and such texts one behind the other. -/
def P4 (x : Int) : ByteArray := ⟨(put4 x).toArray⟩
def P8 (x : Int) : ByteArray := ⟨(put8 x).toArray⟩
def T8 (x : Int) : ByteArray := ⟨(lit8 x).toArray⟩
def catS (f : Nat → ByteArray) : Nat → ByteArray
  | 0 => ⟨#[]⟩
  | k + 1 => catS f k ++ f k
theorem P4_size (x : Int) : (P4 x).size = 4 := rfl
theorem P8_size (x : Int) : (P8 x).size = 8 := by show (put8 x).toArray.size = 8; simp [put8]
theorem T8_size (x : Int) : (T8 x).size = 8 := by show (lit8 x).toArray.size = 8; simp [lit8]
theorem catS_size (f : Nat → ByteArray) (m : Nat) (h : ∀ i, (f i).size = m) : ∀ k, (catS f k).size = m * k
  | 0 => rfl
  | k + 1 => by show (catS f k ++ f k).size = _; rw [ByteArray.size_append, catS_size f m h k, h, Nat.mul_succ]
theorem catS_flat (L : Nat → List UInt8) : ∀ k, catS (fun i => ⟨(L i).toArray⟩) k = ⟨((List.range k).flatMap L).toArray⟩
  | 0 => rfl
  | k + 1 => by
    show catS _ k ++ _ = _
    rw [catS_flat L k, List.range_succ, List.flatMap_append]
    apply ByteArray.ext
    simp [ByteArray.data_append]
theorem rput_4 (x : Int) (w : World) (x0 : 0 ≤ x) (x1 : x < 18446744073709551616) :
    Calls Try.prog 11 #[.int .u64 x, .int .i64 4] w fun e w' => e = .returned (.string (P4 x)) ∧ Below w.heap.size w w' := by
  have h := rput_any x 4 w x0 x1 (by omega)
  rw [putR_4] at h; exact h
theorem rput_8 (x : Int) (w : World) (x0 : 0 ≤ x) (x1 : x < 18446744073709551616) :
    Calls Try.prog 11 #[.int .u64 x, .int .i64 8] w fun e w' => e = .returned (.string (P8 x)) ∧ Below w.heap.size w w' := by
  have h := rput_any x 8 w x0 x1 (by omega)
  rw [(putR_8 x).1] at h; exact h
theorem rturn_P8 (x : Int) (w : World) :
    Calls Try.prog 12 #[.string (P8 x)] w fun e w' => e = .returned (.string (T8 x)) ∧ Below w.heap.size w w' := by
  have h := rturn_any (P8 x) w (by rw [P8_size]; omega)
  have e : (⟨(P8 x).data.toList.reverse.toArray⟩ : ByteArray) = T8 x := by
    show (⟨(put8 x).toArray.toList.reverse.toArray⟩ : ByteArray) = _
    unfold T8
    rw [← (putR_8 x).2, (putR_8 x).1]
  rw [e] at h; exact h
theorem puts32_of (n cap : Nat) (A : Option Addr) (X : Nat → Int) (w : World) (hn : n ≤ 1000) (h : RowOf w .u32 A n cap X) :
    Calls Try.prog 13 #[.slice A n cap] w fun e w' => e = .returned (.string (catS (fun i => P4 (X i)) n)) ∧ Below w.heap.size w w' := by
  have e : catS (fun i => P4 (X i)) n = ⟨((List.range n).flatMap fun k => put4 (X k)).toArray⟩ := catS_flat (fun i => put4 (X i)) n
  rw [e]
  by_cases h1 : 1 ≤ n
  · obtain ⟨g, rfl, hg, hc, hx⟩ := h h1
    exact put32_call g 0 n cap _ X w (fun _ => rfl) (fun _ => hg) hc (by omega) (fun i hi => by rw [Nat.zero_add]; exact hx i hi)
  · obtain rfl : n = 0 := by omega
    exact put32_call 0 0 0 cap A X w (fun h2 => absurd h2 h1) (fun h2 => absurd h2 h1) (by omega) (by omega) (fun i hi => absurd hi (by omega))
theorem puts64_of (b off n cap : Nat) (A : Option Addr) (X : Nat → Int) (w : World) (hA : 1 ≤ n → A = some ⟨b, off, none⟩) (hbl : 1 ≤ n → b < w.heap.size) (hcap : n ≤ cap) (hn : n ≤ 1000) (hcell : ∀ i, i < n → w.cell? ⟨b, off + i, none⟩ = some (.int .u64 (X i))) :
    Calls Try.prog 14 #[.slice A n cap] w fun e w' => e = .returned (.string (catS (fun i => P8 (X i)) n)) ∧ Below w.heap.size w w' := by
  have e : catS (fun i => P8 (X i)) n = ⟨((List.range n).flatMap fun k => put8 (X k)).toArray⟩ := catS_flat (fun i => put8 (X i)) n
  rw [e]
  exact put64_call b off n cap A X w hA hbl hcap (by omega) hcell
theorem little_of (b off n cap : Nat) (A : Option Addr) (X : Nat → Int) (w : World) (hA : 1 ≤ n → A = some ⟨b, off, none⟩) (hbl : 1 ≤ n → b < w.heap.size) (hcap : n ≤ cap) (hn : n ≤ 1000) (hcell : ∀ i, i < n → w.cell? ⟨b, off + i, none⟩ = some (.int .u64 (X i))) :
    Calls Try.prog 15 #[.slice A n cap] w fun e w' => e = .returned (.string (catS (fun i => T8 (X i)) n)) ∧ Below w.heap.size w w' := by
  have e : catS (fun i => T8 (X i)) n = ⟨((List.range n).flatMap fun k => lit8 (X k)).toArray⟩ := catS_flat (fun i => lit8 (X i)) n
  rw [e]
  exact little_call b off n cap A X w hA hbl hcap (by omega) hcell
/-- A row of the call's own as cells. -/
theorem owns_rowOf {w : World} {base : Nat} {e : TypeId} {v : Value} {n : Nat} {K : IntKind} {X : Nat → Int} (h : w.ownsRow base e 1 v n ((List.range n).map fun i => .int K (X i))) : ∃ A cap, v = .slice A n cap ∧ RowOf w K A n cap X := by
  obtain ⟨hl, ⟨rfl, rfl⟩ | ⟨g, cap, cur, rfl, hg, hh, hn, hc, hs, ht⟩⟩ := h
  · exact ⟨none, 0, rfl, fun h => absurd h (by omega)⟩
  · refine ⟨_, _, rfl, fun _ => ⟨g, rfl, ?_, hn, fun i hi => ?_⟩⟩
    · apply Nat.lt_of_not_le
      intro hle
      rw [Array.getElem?_eq_none hle] at hh
      simp at hh
    · have h1 : (cur.toList.take (n * 1))[i]? = some (.int K (X i)) := by rw [ht, List.getElem?_map, List.getElem?_range hi]; rfl
      rw [List.getElem?_take, if_pos (by omega)] at h1
      simpa [World.cell?, hh] using h1
theorem puts_many (a : Option Addr) (len cap : Nat) (w : World) (h : 50 < len) :
    Calls Try.prog 4 #[.slice a len cap] w fun e w' => e = .returned (.bool true) ∧ Below w.heap.size w w' := by
  have d1 : decide ((50 : Int) < (len : Int)) = true := by simp; omega
  go_enter Try.func4, Try.ntmps4
  go_wp2_with (go_at_call 6; refine (lives01 _).mono ?_; rintro e w' ⟨rfl, hb2⟩)
  go_ret
  exact ⟨rfl, hb2⟩
theorem puts_few (A0 : Option Addr) (b off len cap : Nat) (zs : List Int) (w : World) (hA : 1 ≤ len → A0 = some ⟨b, off, none⟩) (hbl : 1 ≤ len → b < w.heap.size) (hl : len ≤ cap) (hz : zs.length = cap)
    (hcell : ∀ i, i < zs.length → w.cell? ⟨b, off + i, none⟩ = some (.int .u64 (zs.getD i 0))) (hwf : ∀ i, 0 ≤ zs.getD i 0 ∧ zs.getD i 0 < 18446744073709551616) (h50 : len ≤ 50) :
    Calls Try.prog 4 #[.slice A0 len cap] w fun e w' => e = .returned (.bool true) ∧ Below w.heap.size w w' := by
  obtain ⟨i0, hi, hz0, hz1, hz2⟩ := info_parts Try.info_u32
  have d1 : decide ((50 : Int) < (len : Int)) = false := by simp; omega
  have HZ := Lib.hid hz
  have HC := Lib.hid hcell
  have HA := Lib.hid hA
  have HB := Lib.hid hbl
  have HW := Lib.hid hwf
  clear hz hcell hA hbl hwf
  go_enter Try.func4, Try.ntmps4
  go_wp2_with fail
  go_loopw [3, 4, 5, 6, 8, 15] (fun a c d v _ i wr => ∃ (k : Nat) (SA SB SC : ByteArray), k ≤ len ∧ i = .int .i64 k ∧ a = .string SA ∧ c = .string SB ∧ d = .string SC ∧
      SA = catS (fun i => P4 (zs.getD i 0 % 4294967296)) k ∧ SB = catS (fun i => P8 (zs.getD i 0)) k ∧ SC = catS (fun i => T8 (zs.getD i 0)) k ∧
      wr.ownsRow w.heap.size 33 1 v k ((List.range k).map fun i => .int .u32 (zs.getD i 0 % 4294967296)) ∧ Below w.heap.size w wr) (fun _ _ _ _ _ i _ => len - (intOf i).toNat)
  case atStart => exact ⟨0, _, _, _, by omega, rfl, rfl, rfl, rfl, rfl, rfl, rfl, World.ownsRow_nil _ _ _ _, Below.refl _ _⟩
  case round =>
    obtain ⟨k, SA, SB, SC, hk, rfl, rfl, rfl, rfl, eA, eB, eC, hown, hb⟩ := hrel
    have zA : SA.size = 4 * k := by rw [eA]; exact catS_size _ 4 (fun i => P4_size _) k
    have zB : SB.size = 8 * k := by rw [eB]; exact catS_size _ 8 (fun i => P8_size _) k
    have zC : SC.size = 8 * k := by rw [eC]; exact catS_size _ 8 (fun i => T8_size _) k
    have EA := Lib.hid eA
    have EB := Lib.hid eB
    have EC := Lib.hid eC
    have HO := Lib.hid hown
    have lA : SA.size ≤ 200 := by omega
    have lB : SB.size ≤ 400 := by omega
    have lC : SC.size ≤ 400 := by omega
    clear eA eB eC hown zA zB zC
    have hsz := hb.size
    by_cases hlt : k < len
    · obtain rfl := HA.out (by omega)
      have hck := (hb.cell (by exact HB.out (by omega))).trans (HC.out k (by have := HZ.out; omega))
      obtain ⟨z0, z1⟩ := HW.out k
      obtain ⟨z, hzk⟩ : ∃ z, z = zs.getD k 0 := ⟨_, rfl⟩
      rw [← hzk] at hck z0 z1
      have HK := Lib.hid hzk
      have r1 : (P4 (z % 4294967296)).size = 4 := P4_size _
      have r2 : (P8 z).size = 8 := P8_size _
      have r3 : (T8 z).size = 8 := T8_size _
      clear hzk
      go_wp2_with (first
        | (at_builtin; refine wpList_append_own _ (by rfl) (.tmp 19) (.tmp 22) 31 (by rfl) w.heap.size 33 i0 (.int .u32 0) 1 4 Try.underlying31 hi hz0 hz1 hz2 rfl (by decide) _ k _ (by simp [Act.eval]; rfl) (by exact HO.out.alloc _) ⟨wr.heap.size, 0, none⟩ 1 1 _ (by simp [Act.eval]) rfl (by exact news_new wr #[_] _) (by simp [Value.oneCell']) (by unfold maxLen; omega) (by omega) (by simp; omega) ?_; intro v2 w2 hown2 hgrow2 _)
        | (go_at_call 12; refine (rturn_P8 _ _).mono ?_; rintro e w5 ⟨rfl, hb5⟩)
        | (go_at_call 11; ((with_reducible refine (rput_4 _ _ (by omega) (by omega)).mono ?_); rintro e w3 ⟨rfl, hb3⟩))
        | (go_at_call 11; ((with_reducible refine (rput_8 _ _ (by omega) (by omega)).mono ?_); rintro e w4 ⟨rfl, hb4⟩; try rename Below w3.heap.size w3 _ => hb4')))
      go_roundw
      case rel =>
        have e1 : ∀ (f : Nat → ByteArray), catS f (k + 1) = catS f k ++ f k := fun _ => rfl
        refine ⟨k + 1, _, _, _, by omega, by go_num, rfl, rfl, rfl, ?_, ?_, ?_, ?_, ?_⟩
        · rw [e1, EA.out, HK.out]
        · rw [e1, EB.out, HK.out]
        · rw [e1, EC.out, HK.out]
        · rw [List.range_succ, List.map_append, List.map_cons, List.map_nil, ← HK.out]
          exact owns_below (owns_below (owns_below (owns_below hown2 hb3) hb4') hb4) hb5
        · exact gr_step (gr_step (gr_step (gr_step ((hb.alloc hb.size _).grown hgrow2 (by simp; omega) (fun j hj => (HO.out.lt j hj).1)) hb3) hb4') hb4) hb5
      case measure => simp [intOf]; omega
    · obtain rfl : k = len := by omega
      obtain ⟨A, ca, rfl, hrow⟩ := owns_rowOf HO.out
      have HR := Lib.hid hrow
      have hcl : ∀ i, i < k → wr.cell? ⟨b, off + i, none⟩ = some (.int .u64 (zs.getD i 0)) := fun i hi => (hb.cell (by exact HB.out (by omega))).trans (HC.out i (by have := HZ.out; omega))
      have HL := Lib.hid hcl
      have hbw : 1 ≤ k → b < wr.heap.size := fun h => Nat.lt_of_lt_of_le (HB.out h) hb.size
      have HBW := Lib.hid hbw
      have QA : (catS (fun i => P4 (zs.getD i 0 % 4294967296)) k).toList = SA.toList := by rw [EA.out]
      have QB : (catS (fun i => P8 (zs.getD i 0)) k).toList = SB.toList := by rw [EB.out]
      have QC : (catS (fun i => T8 (zs.getD i 0)) k).toList = SC.toList := by rw [EC.out]
      clear hrow hcl hbw
      go_wp2_with fail
      refine (puts32_of k ca A _ _ (by omega) HR.out).mono ?_
      rintro e w3 ⟨rfl, hb3⟩
      go_wp2_with fail
      refine (puts64_of b off k cap A0 _ _ HA.out (fun h => Nat.lt_of_lt_of_le (HBW.out h) hb3.size) hl (by omega) (by exact fun i hi => (hb3.cell (by exact HBW.out (by omega))).trans (HL.out i hi))).mono ?_
      rintro e w4 ⟨rfl, hb4⟩
      go_wp2_with fail
      refine (little_of b off k cap A0 _ _ HA.out (fun h => Nat.lt_of_lt_of_le (HBW.out h) (Nat.le_trans hb3.size hb4.size)) hl (by omega) (by exact fun i hi => ((gr_step hb3 hb4).cell (by exact HBW.out (by omega))).trans (HL.out i hi))).mono ?_
      rintro e w5 ⟨rfl, hb5⟩
      go_wp2_with (go_at_call 6; refine (lives01 _).mono ?_; rintro e w6 ⟨rfl, hb6⟩)
      go_ret
      exact ⟨rfl, gr_step (gr_step (gr_step (gr_step hb hb3) hb4) hb5) hb6⟩
theorem octetPuts_walk (a : Option Addr) (len cap : Nat) (zs : List Int) (w : World) (h : IsRow .u64 w a len cap zs) :
    Calls Try.prog 4 #[.slice a len cap] w fun e w' => e = .returned (.bool true) ∧ Below w.heap.size w w' := by
  by_cases h50 : 50 < len
  · exact puts_many a len cap w h50
  rcases h with ⟨rfl, rfl, rfl, rfl⟩ | ⟨x, rfl, hl, _, hz, hcell, hwz⟩
  · exact puts_few none 0 0 0 0 [] w (fun h => absurd h (by omega)) (fun h => absurd h (by omega)) (by omega) rfl (fun i hi => absurd hi (by simp)) (fun i => by simp) (by omega)
  · have hwf : ∀ i, 0 ≤ zs.getD i 0 ∧ zs.getD i 0 < 18446744073709551616 := fun i => by
      by_cases hi : i < zs.length
      · have h1 := hwz (zs.getD i 0) (by rw [getD_at zs i hi]; exact List.getElem_mem hi)
        have h2 : 0 ≤ zs.getD i 0 ∧ zs.getD i 0 ≤ 18446744073709551615 := by simpa [Lit.wf, IntKind.min, IntKind.max, IntKind.signed, IntKind.bits] using h1
        omega
      · have e : zs.getD i 0 = 0 := by simp [List.getElem?_eq_none (by omega : zs.length ≤ i)]
        rw [e]; omega
    by_cases h0 : 0 < zs.length
    · obtain ⟨b, off, rfl, hbl, hc⟩ := row_at hcell h0
      exact puts_few _ b off len cap zs w (fun _ => rfl) (fun _ => hbl) hl hz hc hwf (by omega)
    · obtain rfl : len = 0 := by omega
      exact puts_few _ 0 0 0 cap zs w (fun h => absurd h (by omega)) (fun h => absurd h (by omega)) hl hz (fun i hi => absurd hi (by omega)) hwf (by omega)
end Go.Proofs.Ytoccoagkakeenaa
