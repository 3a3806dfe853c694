/- What base 64 is, in numbers: what is written is read as it was; what is read is written as it was. No program in it. -/
import Derived.Test.YtmkcbmlpdkaniaaB64B
namespace Go.Proofs.Ytmkcbmlpdkaniaa
theorem bt_regroup (F T : Nat) (hT : 0 < T) (x : Nat → Nat) (i : Nat) : btN T (fun j => wN F x (T * j) T) i = btN F x i := by
  have hd := Nat.div_add_mod i T
  have hm := Nat.mod_lt i hT
  have e : T = (i % T + 1) + (T - 1 - i % T) := by omega
  have h : wN F x (T * (i / T)) T / 2 ^ (T - 1 - i % T) = wN F x (T * (i / T)) (i % T + 1) := by
    have := w_high F x (T * (i / T)) (i % T + 1) (T - 1 - i % T)
    rwa [← e] at this
  show wN F x (T * (i / T)) T / 2 ^ (T - 1 - i % T) % 2 = _
  rw [h, wN, hd]
  have := bt_lt F x i
  omega
theorem w_same (F T : Nat) (x y : Nat → Nat) (i : Nat) : ∀ n, (∀ j, j < n → btN F x (i + j) = btN T y (i + j)) → wN F x i n = wN T y i n
  | 0, _ => rfl
  | n + 1, h => by rw [wN, wN, w_same F T x y i n (fun j hj => h j (by omega)), h n (by omega)]
theorem bt_same (F : Nat) (x y : Nat → Nat) (i : Nat) (h : x (i / F) = y (i / F)) : btN F x i = btN F y i := by unfold btN; rw [h]
/-- What is regrouped twice: numbers of F bits each by T and back. -/
theorem w_twice (F T : Nat) (hT : 0 < T) (x y : Nat → Nat) (k n : Nat) (hx : x k < 2 ^ F) (hk : F * k + F ≤ T * n) (hy : ∀ j, j < n → y j = wN F x (T * j) T) : wN T y (F * k) F = x k := by
  rw [← w_unit F x k hx]
  refine w_same T F y x (F * k) F fun j hj => ?_
  rw [← bt_regroup F T hT x (F * k + j)]
  refine bt_same T _ _ _ (hy _ ?_)
  exact (Nat.div_lt_iff_lt_mul hT).2 (by rw [Nat.mul_comm n T]; omega)
theorem gb_ext {a b : ByteArray} (h : a.size = b.size) (g : ∀ i, i < a.size → gb a i = gb b i) : a = b := by
  obtain ⟨⟨la⟩⟩ := a
  obtain ⟨⟨lb⟩⟩ := b
  have hl : la.length = lb.length := h
  have e : la = lb := by
    refine List.ext_getElem hl fun i h1 h2 => ?_
    have q := g i h1
    unfold gb at q
    simp only [List.getD_eq_getElem?_getD, List.getElem?_eq_getElem h1, List.getElem?_eq_getElem h2, Option.getD_some] at q
    exact UInt8.toNat_inj.1 q
  rw [e]
/-- The text of n bytes. -/
def txt (n : Nat) (f : Nat → Nat) : ByteArray := ⟨((List.range n).map fun j => ofI (f j : Int)).toArray⟩
theorem txt_size (n : Nat) (f : Nat → Nat) : (txt n f).size = n := by show (List.map _ _).toArray.size = n; simp
theorem txt_gb (n : Nat) (f : Nat → Nat) (i : Nat) (h : i < n) (hf : f i < 256) : gb (txt n f) i = f i := by
  unfold gb txt
  have h2 := toNat_ofI (f i : Int) (by omega) (by omega)
  simp only [List.getD_eq_getElem?_getD, List.getElem?_map, List.getElem?_range h, Option.map_some, Option.getD_some]
  omega
/-- How many signs n bytes have; the signs. -/
def encN (n : Nat) : Nat := (8 * n + 5) / 6
def encB (url : Bool) (s : ByteArray) : ByteArray := txt (encN s.size) fun j => sgN url (wN 8 (gb s) (6 * j) 6)
theorem sg_lt (url : Bool) (n : Nat) : sgN url n < 256 := gb_lt _ _
theorem w6_lt (F : Nat) (x : Nat → Nat) (i : Nat) : wN F x i 6 < 64 := w_lt F x i 6
theorem w8_lt (F : Nat) (x : Nat → Nat) (i : Nat) : wN F x i 8 < 256 := w_lt F x i 8
/-- The number of the sign at a place; 0 behind the end. -/
def vN (url : Bool) (t : ByteArray) (i : Nat) : Nat := (numI url (gb t i)).toNat
def okT (url : Bool) (t : ByteArray) : Prop := ∀ i, i < t.size → numI url (gb t i) ≠ -1
theorem num_cases (url : Bool) (c : Nat) : numI url c = -1 ∨ ∃ k : Nat, k < 64 ∧ numI url c = (k : Int) ∧ sgN url k = c := by
  by_cases h : ∃ k, k < 64 ∧ sgN url k = c
  · obtain ⟨k, hk, e⟩ := h
    exact .inr ⟨k, hk, num_yes hk e, e⟩
  · exact .inl (num_no fun j hj e => h ⟨j, hj, e⟩)
theorem v_lt (url : Bool) (t : ByteArray) (i : Nat) : vN url t i < 64 := by
  unfold vN
  rcases num_cases url (gb t i) with h | ⟨k, hk, h, _⟩ <;> rw [h] <;> omega
theorem v_sg {url : Bool} {t : ByteArray} (h : okT url t) (i : Nat) (hi : i < t.size) : sgN url (vN url t i) = gb t i := by
  unfold vN
  rcases num_cases url (gb t i) with e | ⟨k, hk, e, g⟩
  · exact absurd e (h i hi)
  · rw [e]; exact g
theorem v_out (url : Bool) (t : ByteArray) (i : Nat) (h : t.size ≤ i) : vN url t i = 0 := by
  unfold vN
  rw [gb_out t i h]
  cases url <;> decide +kernel
/-- What is read, where it can be: as many whole bytes as there are. -/
def decB (url : Bool) (t : ByteArray) : ByteArray := txt (6 * t.size / 8) fun j => wN 6 (vN url t) (8 * j) 8
/-- What is left over. -/
def decR (url : Bool) (t : ByteArray) : Nat := wN 6 (vN url t) (8 * (6 * t.size / 8)) (6 * t.size - 8 * (6 * t.size / 8))
theorem dec_gb (url : Bool) (t : ByteArray) (j : Nat) (hj : j < 6 * t.size / 8) : gb (decB url t) j = wN 6 (vN url t) (8 * j) 8 := txt_gb _ _ _ hj (w8_lt _ _ _)
theorem enc_num (url : Bool) (s : ByteArray) (j : Nat) (hj : j < encN s.size) : vN url (encB url s) j = wN 8 (gb s) (6 * j) 6 := by
  unfold vN encB
  rw [txt_gb _ (fun j => sgN url (wN 8 (gb s) (6 * j) 6)) _ hj (sg_lt _ _), num_yes (w6_lt _ _ _) rfl]
  omega
theorem enc_size (url : Bool) (s : ByteArray) : (encB url s).size = encN s.size := txt_size _ _
theorem enc_ok (url : Bool) (s : ByteArray) : okT url (encB url s) := fun i hi => by
  rw [enc_size] at hi
  unfold encB
  rw [txt_gb _ (fun j => sgN url (wN 8 (gb s) (6 * j) 6)) _ hi (sg_lt _ _), num_yes (w6_lt _ _ _) rfl]
  omega
/-- A bit of what is written. -/
theorem enc_bit (url : Bool) (s : ByteArray) (i : Nat) (hi : i < 6 * encN s.size) : btN 6 (vN url (encB url s)) i = btN 8 (gb s) i := by
  rw [← bt_regroup 8 6 (by decide) (gb s) i]
  exact bt_same 6 _ _ _ (enc_num url s _ (by omega))
theorem bit_out (s : ByteArray) (i : Nat) (h : 8 * s.size ≤ i) : btN 8 (gb s) i = 0 := bt_zero 8 _ _ (gb_out s _ (by omega))
theorem w_all0 (F : Nat) (x : Nat → Nat) (i : Nat) (n : Nat) (h : ∀ j, j < n → btN F x (i + j) = 0) : wN F x i n = 0 := by
  have := w_zeros F x i 0 n (fun j hj => by rw [Nat.add_zero]; exact h j hj)
  simpa [wN] using this
theorem back_size (s : ByteArray) : 6 * encN s.size / 8 = s.size := by unfold encN; omega
theorem back_rest (url : Bool) (s : ByteArray) : decR url (encB url s) = 0 := by
  unfold decR
  rw [enc_size, back_size]
  have e := back_size s
  refine w_all0 6 _ _ _ fun j hj => ?_
  rw [enc_bit url s _ (by omega)]
  exact bit_out s _ (by omega)
theorem back_same (url : Bool) (s : ByteArray) : decB url (encB url s) = s := by
  have e := back_size s
  have e2 : (decB url (encB url s)).size = s.size := by unfold decB; rw [txt_size, enc_size, e]
  refine gb_ext e2 fun i hi => ?_
  rw [e2] at hi
  rw [dec_gb url _ i (by rw [enc_size, e]; exact hi), ← w_unit 8 (gb s) i (gb_lt s i)]
  refine w_same 6 8 _ _ _ _ fun j hj => enc_bit url s _ (by omega)
theorem back_form (s : ByteArray) : ¬ encN s.size % 4 = 1 := by unfold encN; omega
/-- What is read is written as it was: where nothing is left over; else it isn't. -/
theorem dec_size (url : Bool) (t : ByteArray) : (decB url t).size = 6 * t.size / 8 := txt_size _ _
theorem again_size (t : ByteArray) (h4 : ¬ t.size % 4 = 1) : encN (6 * t.size / 8) = t.size := by
  unfold encN
  obtain ⟨d, hd⟩ : ∃ d, t.size / 4 = d := ⟨_, rfl⟩
  have h3 : t.size = 4 * d ∨ t.size = 4 * d + 2 ∨ t.size = 4 * d + 3 := by omega
  rcases h3 with h3 | h3 | h3 <;> rw [h3] <;> omega
theorem dec_bit (url : Bool) (t : ByteArray) (i : Nat) (hi : i < 8 * (6 * t.size / 8)) : btN 8 (gb (decB url t)) i = btN 6 (vN url t) i := by
  rw [← bt_regroup 6 8 (by decide) (vN url t) i]
  exact bt_same 8 _ _ _ (dec_gb url t _ (by omega))
theorem dec_bit_out (url : Bool) (t : ByteArray) (i : Nat) (hi : 8 * (6 * t.size / 8) ≤ i) : btN 8 (gb (decB url t)) i = 0 := bit_out _ _ (by rw [dec_size]; exact hi)
theorem w_bit0 (F : Nat) (x : Nat → Nat) (i : Nat) : ∀ n, wN F x i n = 0 → ∀ j, j < n → btN F x (i + j) = 0
  | 0, _, j, hj => by omega
  | n + 1, h, j, hj => by
    rw [wN] at h
    by_cases e : j = n
    · rw [e]; omega
    · exact w_bit0 F x i n (by omega) j (by omega)
theorem again_same (url : Bool) (t : ByteArray) (ht : okT url t) (h4 : ¬ t.size % 4 = 1) (h0 : decR url t = 0) : encB url (decB url t) = t := by
  have e1 : (encB url (decB url t)).size = t.size := by rw [enc_size, dec_size, again_size t h4]
  refine gb_ext e1 fun i hi => ?_
  rw [e1] at hi
  unfold encB
  rw [txt_gb _ (fun j => sgN url (wN 8 (gb (decB url t)) (6 * j) 6)) _ (by rw [dec_size, again_size t h4]; exact hi) (sg_lt _ _), ← v_sg ht i hi]
  congr 1
  rw [← w_unit 6 (vN url t) i (v_lt url t i)]
  refine w_same 8 6 _ _ _ _ fun j hj => ?_
  by_cases hb : 6 * i + j < 8 * (6 * t.size / 8)
  · exact dec_bit url t _ hb
  · rw [dec_bit_out url t _ (by omega)]
    have := w_bit0 6 (vN url t) (8 * (6 * t.size / 8)) _ h0 (6 * i + j - 8 * (6 * t.size / 8)) (by omega)
    rw [show 8 * (6 * t.size / 8) + (6 * i + j - 8 * (6 * t.size / 8)) = 6 * i + j by omega] at this
    exact this.symm
theorem again_other (url : Bool) (t : ByteArray) (h : encB url (decB url t) = t) : decR url t = 0 := by
  have := back_rest url (decB url t)
  rwa [h] at this
end Go.Proofs.Ytmkcbmlpdkaniaa
