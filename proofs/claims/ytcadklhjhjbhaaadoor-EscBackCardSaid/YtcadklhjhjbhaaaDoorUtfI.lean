/- utf.Put (layer 3): what it answers. -/
import Derived.Test.YtcadklhjhjbhaaaDoorUtfH
namespace Go.Proofs.YtcadklhjhjbhaaaDoor
set_option maxRecDepth 20000
set_option linter.unusedSimpArgs false
set_option linter.unusedVariables false
open Go.RowKit Go.Lib
theorem rune_low {r x : Int} (h : x ∈ encodeRuneZ r) : 0 ≤ x ∧ x < 256 := by
  unfold encodeRuneZ at h
  split at h
  · simp at h; omega
  · split at h
    · simp at h; omega
    · split at h
      · simp at h; omega
      · split at h
        · simp at h; omega
        · simp at h; omega
theorem cells_bc (r : Int) : runeCells r = (encodeRune r).map bc := by
  unfold runeCells encodeRune
  rw [List.map_map]
  refine List.map_congr_left fun x hx => ?_
  obtain ⟨h0, h1⟩ := rune_low hx
  show Value.int .u8 x = Value.int .u8 ((x.toNat.toUInt8).toNat : Int)
  obtain ⟨n, rfl⟩ := Int.eq_ofNat_of_zero_le h0
  have := by_u8 n (by omega)
  rw [this]
theorem rune_few (r : Int) : (encodeRune r).length ≤ 4 := by
  unfold encodeRune encodeRuneZ
  split
  · simp
  · split
    · simp
    · split
      · simp
      · split
        · simp
        · simp
/-- The forms of the first k numbers. -/
def formsB (zs : List Int) : Nat → List UInt8
  | 0 => []
  | k + 1 => formsB zs k ++ encodeRune (zs.getD k 0)
theorem formsB_few (zs : List Int) : ∀ k, (formsB zs k).length ≤ 4 * k
  | 0 => Nat.le_refl _
  | k + 1 => by
    have h := formsB_few zs k
    have h2 := rune_few (zs.getD k 0)
    unfold formsB
    rw [List.length_append]
    omega
def okP (zs : List Int) (k : Nat) : Prop := ∀ i, i < k → Lib.validRune (zs.getD i 0) = true
def retP (L : List UInt8) (e : Int) : Ending := .returned (.tuple #[.string ⟨L.toArray⟩, .int .i64 e])
set_option maxHeartbeats 4000000 in
theorem put_any (b off len cap : Nat) (zs : List Int) (w : World) (hlen : len ≤ 100) (hb : 0 < len → b < w.heap.size) (hc : ∀ i, i < len → w.cell? ⟨b, off + i, none⟩ = some (.int .i32 (zs.getD i 0))) (hz : ∀ i, i < len → -2147483648 ≤ zs.getD i 0 ∧ zs.getD i 0 ≤ 2147483647) (a : Option Addr) (ha : 0 < len → a = some ⟨b, off, none⟩) :
    Calls Tryd.prog 51 #[.slice a len cap] w fun e w' => ((okP zs len ∧ e = retP (formsB zs len) 0) ∨ (¬ okP zs len ∧ e = retP [] 2)) ∧ Below w.heap.size w w' := by
  go_enter Tryd.func51, Tryd.ntmps51
  go_wp2_with fail
  go_loopw [4, 9] (fun v i wr => ∃ k : Nat, k ≤ len ∧ i = .int .i64 (k : Int) ∧ Hid (okP zs k) ∧ wr.ownsRow w.heap.size 5 1 v (formsB zs k).length ((formsB zs k).map bc) ∧ Below w.heap.size w wr) (fun _ i _ => len - (Go.RowKit.intOf i).toNat)
  case atStart => exact ⟨0, by omega, rfl, Lib.hid (fun i hi => absurd hi (by omega)), ⟨rfl, .inl ⟨rfl, rfl⟩⟩, Below.refl _ _⟩
  case round =>
    obtain ⟨k, hk, rfl, HO, hown, hbe⟩ := hrel
    by_cases hlt : k < len
    · have p1 : (k : Int) < (len : Int) := by omega
      obtain rfl := ha (by omega)
      have hb0 := hb (by omega)
      have hck : wr.cell? ⟨b, off + k, none⟩ = some (.int .i32 (zs.getD k 0)) := (hbe.cell (p := ⟨b, off + k, none⟩) hb0).trans (hc k hlt)
      have hzk := hz k hlt
      have HF : Hid (formsB zs (k + 1) = formsB zs k ++ encodeRune (zs.getD k 0)) := rfl
      have hfew := formsB_few zs k
      have HP : Hid (okP zs (k + 1) ↔ Lib.validRune (zs.getD k 0) = true) := ⟨fun h => h k (by omega), fun h i hi => by
        rcases Nat.eq_or_lt_of_le (Nat.le_of_lt_succ hi) with e | e
        · rw [e]; exact h
        · exact HO.out i e⟩
      have HN : Hid (okP zs len → okP zs (k + 1)) := fun h i hi => h i (by omega)
      have hle := hbe.size
      obtain ⟨r, hr⟩ : ∃ r, zs.getD k 0 = r := ⟨_, rfl⟩
      rw [hr] at hck hzk HF HP
      have KV := Lib.hid (fun w => Tryd.utf8_ValidRune r w)
      obtain ⟨F, hF⟩ : ∃ F, formsB zs k = F := ⟨_, rfl⟩
      rw [hF] at hown HF hfew
      clear hr hF
      cases hv : Lib.validRune r with
      | true =>
        rw [hv] at KV
        have HO2 := Lib.hid (HP.out.2 hv)
        clear hv HO HP HN
        go_wp2_with fail
        refine (KV.out _).mono ?_
        rintro e w1 ⟨rfl, rfl⟩
        go_wp2_with fail
        refine (Tryd.utf8_AppendRune_plain w.heap.size u4 F.length (F.map bc) r hzk.1 hzk.2 _ hown (by omega) hle).mono ?_
        rintro e w2 ⟨v2, rfl, hown2, o, hg⟩
        go_wp2_with fail
        go_roundw
        case rel =>
          refine ⟨k + 1, by omega, congrArg (Value.int .i64) (by omega), HO2, ?_, (gr_alloc hbe o).grown hg (by rw [alloc_size1]; omega) (fun j hj => (hown.lt j hj).1)⟩
          rw [HF.out, List.map_append, ← cells_bc, List.length_append, show (encodeRune r).length = (runeCells r).length by rw [cells_bc, List.length_map]]
          exact hown2
        case measure =>
          simp [Go.RowKit.intOf]
          omega
      | false =>
        rw [hv] at KV
        have HNO : Hid (¬ okP zs len) := fun h => by
          have := HP.out.1 (HN.out h)
          rw [hv] at this
          cases this
        clear hv HO HP HN
        go_wp2_with fail
        refine (KV.out _).mono ?_
        rintro e w1 ⟨rfl, rfl⟩
        go_wp2_with fail
        go_ret2
        exact ⟨.inr ⟨HNO.out, rfl⟩, hbe⟩
    · obtain rfl : k = len := by omega
      have p1 : ¬ (k : Int) < (k : Int) := by omega
      have HCV := own_string (P := Tryd.prog) (t := 51) (ty := 9) Tryd.underlying51 Tryd.underlying5 Tryd.underlying9 hown
      clear ha hb hc hz
      go_wp2_with fail
      go_ret2
      exact ⟨.inl ⟨HO.out, rfl⟩, hbe⟩
end Go.Proofs.YtcadklhjhjbhaaaDoor
