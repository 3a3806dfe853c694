/- The law OctetGets: it returns true. -/
import Derived.Test.YtoccoagkakeenaaOctL
namespace Go.Proofs.Ytoccoagkakeenaa
open Go.RowKit
theorem gets_many (s : ByteArray) (w : World) (h1 : 300 < s.size) :
    Calls Try.prog 5 #[.string s] w fun e w' => e = .returned (.bool true) ∧ Below w.heap.size w w' := by
  have d1 : decide ((300 : Int) < (s.size : Int)) = true := by simp; omega
  go_enter Try.func5, Try.ntmps5
  go_wp2_with (go_at_call 6; refine (lives01 _).mono ?_; rintro e w' ⟨rfl, hb2⟩)
  go_ret
  exact ⟨rfl, hb2⟩
theorem extract_list (s : ByteArray) (a b : Nat) : (s.extract a b).data.toList = (s.data.toList.take b).drop a := by
  rw [ByteArray.data_extract, Array.toList_extract]
  simp [List.drop_take]
theorem ext_at8 (s : ByteArray) (k : Nat) : (s.extract (8 * k) (8 * k + 8)).data.toList = at8 s.data.toList k := by
  rw [extract_list, at8, List.drop_take]; congr 1; omega
theorem ext_at4 (s : ByteArray) (k : Nat) : (s.extract (4 * k) (4 * k + 4)).data.toList = at4 s.data.toList k := by
  rw [extract_list, at4, List.drop_take]; congr 1; omega
/-- A row of the call's own, taken apart: nil, or cells from its block's head on. -/
theorem owns_form {w : World} {base : Nat} {e : TypeId} {v : Value} {n : Nat} {xs : List Value} (h : w.ownsRow base e 1 v n xs) :
    ∃ (A : Option Addr) (cap : Nat), v = .slice A n cap ∧ (1 ≤ n → ∃ g, A = some ⟨g, 0, none⟩ ∧ g < w.heap.size ∧ n ≤ cap ∧ ∀ i, i < n → w.cell? ⟨g, i, none⟩ = xs[i]?) := by
  obtain ⟨hl, ⟨rfl, rfl⟩ | ⟨g, cap, cur, rfl, hg, hh, hn, hc, hs, ht⟩⟩ := h
  · exact ⟨none, 0, rfl, fun h => absurd h (by omega)⟩
  · refine ⟨_, _, rfl, fun _ => ⟨g, rfl, ?_, hn, fun i hi => ?_⟩⟩
    · apply Nat.lt_of_not_le
      intro hle
      rw [Array.getElem?_eq_none hle] at hh
      simp at hh
    · rw [← ht, List.getElem?_take, if_pos (by omega)]
      simp [World.cell?, hh]
theorem rget_4 (s : ByteArray) (k : Nat) (w : World) : 
    Calls Try.prog 19 #[.string (s.extract (4 * k) (4 * k + 4))] w fun e w' => e = .returned (.int .u64 (getN (at4 s.data.toList k))) ∧ w = w' := by
  rw [← ext_at4]
  exact rget_any _ w (by rw [ByteArray.size_extract]; omega)
theorem rget_8 (s : ByteArray) (k : Nat) (w : World) : 
    Calls Try.prog 19 #[.string (s.extract (8 * k) (8 * k + 8))] w fun e w' => e = .returned (.int .u64 (getN (at8 s.data.toList k))) ∧ w = w' := by
  rw [← ext_at8]
  exact rget_any _ w (by rw [ByteArray.size_extract]; omega)
theorem rturn_8 (s : ByteArray) (k : Nat) (w : World) :
    Calls Try.prog 12 #[.string (s.extract (8 * k) (8 * k + 8))] w fun e w' => e = .returned (.string ⟨(at8 s.data.toList k).reverse.toArray⟩) ∧ Below w.heap.size w w' := by
  rw [← ext_at8]
  exact rturn_any _ w (by rw [ByteArray.size_extract]; omega)
theorem rget_rev (s : ByteArray) (k : Nat) (w : World) : 
    Calls Try.prog 19 #[.string ⟨(at8 s.data.toList k).reverse.toArray⟩] w fun e w' => e = .returned (.int .u64 (getN (at8 s.data.toList k).reverse)) ∧ w = w' := by
  refine rget_any _ w ?_
  show (at8 s.data.toList k).reverse.toArray.size ≤ 8
  simp [at8]; omega
theorem at_bd (l : List UInt8) (k : Nat) : 0 ≤ getN (at4 l k) ∧ getN (at4 l k) < 4294967296 ∧ 0 ≤ getN (at8 l k) ∧ getN (at8 l k) < 18446744073709551616 := by
  have h4 : (at4 l k).length ≤ 4 := by simp [at4]; omega
  have h8 : (at8 l k).length ≤ 8 := by simp [at8]; omega
  obtain ⟨a0, a1⟩ := getN_bd _ (at4 l k) rfl (by omega)
  obtain ⟨b0, b1⟩ := getN_bd _ (at8 l k) rfl (by omega)
  have e4 : 2 ^ (8 * (at4 l k).length) ≤ 2 ^ 32 := Nat.pow_le_pow_right (by decide) (by omega)
  have e8 : 2 ^ (8 * (at8 l k).length) ≤ 2 ^ 64 := Nat.pow_le_pow_right (by decide) (by omega)
  omega
set_option maxHeartbeats 1600000 in
theorem gets_few (s : ByteArray) (w : World) (hs : s.size ≤ 300) :
    Calls Try.prog 5 #[.string s] w fun e w' => e = .returned (.bool true) ∧ Below w.heap.size w w' := by
  have d1 : decide ((300 : Int) < (s.size : Int)) = false := by simp; omega
  go_enter Try.func5, Try.ntmps5
  go_wp2_with fail
  refine (get32_any s _ (by omega)).mono ?_
  rintro e w1 ⟨va, rfl, hoa, hb1⟩
  go_wp2_with fail
  refine (get64_any s _ (by omega)).mono ?_
  rintro e w2 ⟨vb, rfl, hob, hb2⟩
  go_wp2_with fail
  refine (low_any s _ (by omega)).mono ?_
  rintro e w3 ⟨vc, rfl, hoc, hb3⟩
  replace hob := owns_below hob hb3
  replace hoa := owns_below (owns_below hoa hb2) hb3
  replace hb3 := gr_step (gr_step hb1 hb2) hb3
  clear hb1 hb2
  obtain ⟨A, ca, rfl, hA⟩ := owns_form hoa
  obtain ⟨B, cb, rfl, hB⟩ := owns_form hob
  obtain ⟨C, cc, rfl, hC⟩ := owns_form hoc
  have HA := Lib.hid hA
  have HB := Lib.hid hB
  have HC := Lib.hid hC
  have HOA := Lib.hid hoa
  have HOB := Lib.hid hob
  have HOC := Lib.hid hoc
  clear hA hB hC hoa hob hoc
  go_wp2_with fail
  go_loop [6, 7, 44] (fun _ _ i => ∃ k : Nat, k ≤ s.size / 4 ∧ i = .int .i64 k) (fun _ _ i => (s.size / 4) - (intOf i).toNat)
  case atStart => exact ⟨0, by omega, rfl⟩
  case round =>
    obtain ⟨k, hk, rfl⟩ := hrel
    by_cases hlt : k < s.size / 4
    · obtain ⟨g, rfl, hgl, hgc, hcells⟩ := HA.out (by omega)
      have hck := hcells k hlt
      rw [List.getElem?_map, List.getElem?_range hlt] at hck
      obtain ⟨y0, y1, _, _⟩ := at_bd s.data.toList k
      have yw : IntKind.u64.wrap (getN (at4 s.data.toList k)) = getN (at4 s.data.toList k) := by rw [IntKind.wrap_u64]; omega
      have q1 : 4 * (k : Int) + 4 ≤ (s.size : Int) := by omega
      have s1 : IntKind.i64.wrap (4 * (k : Int)) = 4 * k := IntWalk.i64_in _ (by omega)
      have s2 : IntKind.i64.wrap (4 * (k : Int) + 4) = 4 * k + 4 := IntWalk.i64_in _ (by omega)
      clear hcells
      go_wp2_with fail
      refine (rget_4 s k _).mono ?_
      rintro e w' ⟨rfl, rfl⟩
      go_wp2_with fail
      go_round
      case rel => exact ⟨k + 1, by omega, by go_num⟩
      case measure => simp [intOf]; omega
    · obtain rfl : k = s.size / 4 := by omega
      go_wp2_with fail
      go_loopw [8, 9, 63] (fun _ _ i wr => ∃ k : Nat, k ≤ s.size / 8 ∧ i = .int .i64 k ∧ Below w3.heap.size w3 wr) (fun _ _ i _ => (s.size / 8) - (intOf i).toNat)
      case atStart => exact ⟨0, by omega, rfl, Below.refl _ _⟩
      case round =>
        obtain ⟨k, hk, rfl, hb⟩ := hrel
        by_cases hlt : k < s.size / 8
        · obtain ⟨gb, rfl, hgl, hgc, hcells⟩ := HB.out (by omega)
          obtain ⟨gd, rfl, hgl2, hgc2, hcells2⟩ := HC.out (by omega)
          have hck := (hb.cell (p := ⟨gb, k, none⟩) hgl).trans (hcells k hlt)
          have hcd := (hb.cell (p := ⟨gd, k, none⟩) hgl2).trans (hcells2 k hlt)
          rw [List.getElem?_map, List.getElem?_range hlt] at hck hcd
          simp only [Option.map_some] at hck hcd
          have hgw := Nat.lt_of_lt_of_le hgl2 hb.size
          have q1 : 8 * (k : Int) + 8 ≤ (s.size : Int) := by omega
          have s1 : IntKind.i64.wrap (8 * (k : Int)) = 8 * k := IntWalk.i64_in _ (by omega)
          have s2 : IntKind.i64.wrap (8 * (k : Int) + 8) = 8 * k + 8 := IntWalk.i64_in _ (by omega)
          have q3 : (k : Int) < ((s.size / 8 : Nat) : Int) := by omega
          have q4 : 0 ≤ 8 * (k : Int) := by omega
          have q5 : 8 * (k : Int) ≤ 8 * (k : Int) + 8 := by omega
          have q6 : 0 ≤ 8 * (k : Int) + 8 := by omega
          have n1 : (8 * (k : Int)).toNat = 8 * k := by omega
          have n2 : (8 * (k : Int) + 8).toNat = 8 * k + 8 := by omega
          clear hcells hcells2
          go_wp2_with fail
          go_region_held3 (fun w' => w'.cell? ⟨gd, k, none⟩ = some (.int .u64 (getN (at8 s.data.toList k).reverse))) (first | go_keep | (exact (hbt.cell (by simp; omega)).trans (by assumption))) (first
            | (go_at_call 12; refine (rturn_8 s k _).mono ?_; rintro e w' ⟨rfl, hbt⟩)
            | (go_at_call 19; ((with_reducible refine (rget_8 s k _).mono ?_); rintro e w' ⟨rfl, rfl⟩))
            | (go_at_call 19; ((with_reducible refine (rget_rev s k _).mono ?_); rintro e w' ⟨rfl, rfl⟩)))
          all_goals
            go_wp2_with fail
            go_roundw
            case rel => exact ⟨k + 1, by omega, by go_num, gr_step (below_drewN hb 1) hbt⟩
            case measure => simp [intOf]; omega
        · obtain rfl : k = s.size / 8 := by omega
          have RA : RowOf w3 .u32 A (s.size / 4) ca (fun k => getN (at4 s.data.toList k)) := fun h => by
            obtain ⟨g, e, hg, hc, hx⟩ := HA.out h
            exact ⟨g, e, hg, hc, fun i hi => by rw [hx i hi, List.getElem?_map, List.getElem?_range hi]; rfl⟩
          have RB : RowOf w3 .u64 B (s.size / 8) cb (fun k => getN (at8 s.data.toList k)) := fun h => by
            obtain ⟨g, e, hg, hc, hx⟩ := HB.out h
            exact ⟨g, e, hg, hc, fun i hi => by rw [hx i hi, List.getElem?_map, List.getElem?_range hi]; rfl⟩
          have RC : RowOf w3 .u64 C (s.size / 8) cc (fun k => getN (at8 s.data.toList k).reverse) := fun h => by
            obtain ⟨g, e, hg, hc, hx⟩ := HC.out h
            exact ⟨g, e, hg, hc, fun i hi => by rw [hx i hi, List.getElem?_map, List.getElem?_range hi]; rfl⟩
          have RA' := Lib.hid RA
          have RB' := Lib.hid RB
          have RC' := Lib.hid RC
          have q1 : (s.size : Int) / 4 * 4 ≤ (s.size : Int) := by omega
          have q2 : (s.size : Int) / 8 * 8 ≤ (s.size : Int) := by omega
          have q3 : 0 ≤ (s.size : Int) / 4 * 4 := by omega
          have q4 : 0 ≤ (s.size : Int) / 8 * 8 := by omega
          have s3 : IntKind.i64.wrap ((s.size : Int) / 4) = (s.size : Int) / 4 := IntWalk.i64_in _ (by omega)
          have s4 : IntKind.i64.wrap ((s.size : Int) / 8) = (s.size : Int) / 8 := IntWalk.i64_in _ (by omega)
          have t1 : (s.size : Int).tdiv 4 = (s.size : Int) / 4 := Int.tdiv_eq_ediv_of_nonneg (by omega)
          have t2 : (s.size : Int).tdiv 8 = (s.size : Int) / 8 := Int.tdiv_eq_ediv_of_nonneg (by omega)
          have s1 : IntKind.i64.wrap ((s.size : Int) / 4 * 4) = (s.size : Int) / 4 * 4 := IntWalk.i64_in _ (by omega)
          have s2 : IntKind.i64.wrap ((s.size : Int) / 8 * 8) = (s.size : Int) / 8 * 8 := IntWalk.i64_in _ (by omega)
          have n1 : ((s.size : Int) / 4 * 4).toNat = s.size / 4 * 4 := by omega
          have n2 : ((s.size : Int) / 8 * 8).toNat = s.size / 8 * 8 := by omega
          clear RA RB RC
          go_wp2_with fail
          go_region_held3 (fun w' => Below w3.heap.size w3 w') (first | go_keep | (exact below_drewN (by assumption) 1) | (exact gr_step (by assumption) hbp)) (first
            | (go_at_call 13; refine (put32_back s A ca _ (by omega) (RA'.out.below (by assumption))).mono ?_; rintro e w' ⟨rfl, hbp⟩)
            | (go_at_call 14; refine (put64_back s B cb _ (by omega) (RB'.out.below (by assumption))).mono ?_; rintro e w' ⟨rfl, hbp⟩)
            | (go_at_call 15; refine (little_back s C cc _ (by omega) (RC'.out.below (by assumption))).mono ?_; rintro e w' ⟨rfl, hbp⟩)
            | (go_at_call 6; refine (lives01 _).mono ?_; rintro e w' ⟨rfl, hbp⟩))
          go_wp2_with fail
          go_ret
          exact ⟨rfl, gr_step hb3 (by assumption)⟩
theorem octetGets_walk (s : ByteArray) (w : World) (_ws : s.size ≤ maxLen) :
    Calls Try.prog 5 #[.string s] w fun e w' => e = .returned (.bool true) ∧ Below w.heap.size w w' := by
  by_cases h : 300 < s.size
  · exact gets_many s w h
  · exact gets_few s w (by omega)
end Go.Proofs.Ytoccoagkakeenaa
