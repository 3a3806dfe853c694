/- The reference's Keys and Begin (layer 18): what they answer. -/
import Derived.Test.YtmjbhmpogpagjaaS5C
import Derived.Test.YtmjbhmpogpagjaaRooJ
import Derived.Test.YtmjbhmpogpagjaaRooHr
namespace Go.Proofs.Ytmjbhmpogpagjaa
set_option maxRecDepth 20000
set_option linter.unusedSimpArgs false
set_option linter.unusedVariables false
open Go.RowKit
def primes80 : List Nat := [2, 3, 5, 7, 11, 13, 17, 19, 23, 29, 31, 37, 41, 43, 47, 53, 59, 61, 67, 71, 73, 79, 83, 89, 97, 101, 103, 107, 109, 113, 127, 131, 137, 139, 149, 151, 157, 163, 167, 173, 179, 181, 191, 193, 197, 199, 211, 223, 227, 229, 233, 239, 241, 251, 257, 263, 269, 271, 277, 281, 283, 293, 307, 311, 313, 317, 331, 337, 347, 349, 353, 359, 367, 373, 379, 383, 389, 397, 401, 409]
def cubes80 : List Nat := [23241441160490167842, 26604808713878332877, 31543488660544240431, 35287351959220771772, 41025191555757552952, 43374469216020582425, 47431773444313272219, 49223322299838333208, 52460086356995146306, 56674242196778545086, 57948244932766773900, 61468643694135456994, 63608380943893236079, 64626287408284341937, 66571091106846937653, 69291241975837173396, 71813108563482594002, 72615556083564357091, 74922338351982630325, 76384605279477341285, 77095200552867529333, 79152035218479047811, 80466001307761769428, 82360010132597855157, 84757271453788200875, 85906662539289440784, 86470001012957192511, 87575168524888248036, 88117443448470540226, 89182409882623190821, 92723033081372705391, 93686458245878541936, 95095488024300105724, 95556006044611561766, 97794660939065469677, 98230277650290947039, 99514478923103560670, 100766364611844223656, 101583977345534766822, 102786266195516601659, 103961068102722061156, 104346826991781163009, 106234157551817627537, 106603670640207904304, 107335108066752287256, 107697117917222381840, 109819772810290077738, 111863398698143437240, 112528278492720320712, 112857792170093030227, 113511107980111571865, 114477206417490790568, 114795642568024087139, 116361942610802215627, 117281838038729876339, 118187525164200278179, 119079540232616391420, 119373928427484032864, 120248493880617511794, 120824543361758411244, 121110519679094562344, 122520547622920568297, 124441674862916172053, 124979807718728684331, 125247145020423037340, 125778422408467759623, 127603441353585912606, 128369846764518166904, 129627222056361226170, 129875788766833580198, 130370087684295691694, 131104582549941012251, 132071287192121802116, 132787134709014930579, 133495346155087314620, 133963344184962190668, 134659270149180113590, 135576127461610847786, 136029942151059536620, 136928597060811708439]
def squares8 : List Nat := [26087635650665564424, 31950697969885030203, 41248173712355948587, 48805497317890012913, 61180928696206656209, 66510681623121259551, 76057874264641092971, 80407493254657745273]
theorem prim_ok : (List.range 80).all (fun t => isPb (primes80.getD t 0) && decide (cnt (primes80.getD t 0) = t) && decide (1 ≤ primes80.getD t 0) && decide (primes80.getD t 0 < 65536)) = true := by decide +kernel
theorem cube_ok : (List.range 80).all (fun t => decide (cubes80.getD t 0 ^ 3 ≤ primes80.getD t 0 * 65536 ^ 12) && decide (primes80.getD t 0 * 65536 ^ 12 < (cubes80.getD t 0 + 1) ^ 3) && decide (cubes80.getD t 0 % 18446744073709551616 = keys80.getD t 0)) = true := by decide +kernel
theorem square_ok8 : (List.range 8).all (fun t => decide (squares8.getD t 0 ^ 2 ≤ primes80.getD t 0 * 65536 ^ 8) && decide (primes80.getD t 0 * 65536 ^ 8 < (squares8.getD t 0 + 1) ^ 2) && decide (squares8.getD t 0 % 18446744073709551616 = begin8.getD t 0)) = true := by decide +kernel
theorem root_one {x y k N : Nat} (h1 : x ^ k ≤ N) (h2 : N < (x + 1) ^ k) (h3 : y ^ k ≤ N) (h4 : N < (y + 1) ^ k) : x = y := by
  have key : ∀ a b : Nat, a ^ k ≤ N → N < (b + 1) ^ k → a ≤ b := fun a b ha hb => by
    rcases Nat.lt_or_ge b a with h | h
    · exact absurd (Nat.lt_of_lt_of_le hb (Nat.le_trans (Nat.pow_le_pow_left (show b + 1 ≤ a from h) k) ha)) (Nat.lt_irrefl _)
    · exact h
  exact Nat.le_antisymm (key x y h1 h4) (key y x h3 h2)
theorem wd0 (x : Nat) : wd x 0 = x % 18446744073709551616 := by
  unfold wd B64
  simp
theorem rprime_at (t : Nat) (ht : t < 80) (w : World) : Calls Try.prog 34 #[.int .i64 (t : Int)] w fun e w' => e = .returned (.int .i64 (primes80.getD t 0 : Int)) ∧ w = w' := by
  have h := List.all_eq_true.1 prim_ok t (List.mem_range.2 ht)
  simp only [Bool.and_eq_true, decide_eq_true_eq] at h
  refine rprime_any t (primes80.getD t 0) w h.1.1.1 h.1.1.2 ?_ (by omega)
  have : ∀ x ∈ primes80, x ≤ 9000 := by decide +kernel
  have ht2 : t < primes80.length := ht
  rw [List.getD_eq_getElem?_getD, List.getElem?_eq_getElem ht2]
  exact this _ (List.getElem_mem ht2)
theorem rcube_at (t : Nat) (ht : t < 80) (w : World) : Calls Try.prog 33 #[.int .i64 (primes80.getD t 0 : Int), .int .i64 3] w fun e w' => e = .returned (.int .u64 (cubes80.getD t 0 % 18446744073709551616 : Nat)) ∧ Below w.heap.size w w' := by
  have h := List.all_eq_true.1 prim_ok t (List.mem_range.2 ht)
  have c := List.all_eq_true.1 cube_ok t (List.mem_range.2 ht)
  simp only [Bool.and_eq_true, decide_eq_true_eq] at h c
  refine (root_any (primes80.getD t 0) 3 w h.1.2 h.2 (.inr rfl)).mono ?_
  rintro e w' ⟨x, _, h1, h2, rfl, hb⟩
  have : x = cubes80.getD t 0 := root_one h1 h2 c.1.1 c.1.2
  rw [this, wd0]
  exact ⟨rfl, hb⟩
theorem rsquare_at (t : Nat) (ht : t < 8) (w : World) : Calls Try.prog 33 #[.int .i64 (primes80.getD t 0 : Int), .int .i64 2] w fun e w' => e = .returned (.int .u64 (squares8.getD t 0 % 18446744073709551616 : Nat)) ∧ Below w.heap.size w w' := by
  have h := List.all_eq_true.1 prim_ok t (List.mem_range.2 (by omega))
  have c := List.all_eq_true.1 square_ok8 t (List.mem_range.2 ht)
  simp only [Bool.and_eq_true, decide_eq_true_eq] at h c
  refine (root_any (primes80.getD t 0) 2 w h.1.2 h.2 (.inl rfl)).mono ?_
  rintro e w' ⟨x, _, h1, h2, rfl, hb⟩
  have : x = squares8.getD t 0 := root_one h1 h2 c.1.1 c.1.2
  rw [this, wd0]
  exact ⟨rfl, hb⟩
theorem take_next (l : List Nat) (k : Nat) (h : k < l.length) : l.take (k + 1) = l.take k ++ [l.getD k 0] := by
  rw [List.take_succ_eq_append_getElem h, List.getD_eq_getElem?_getD, List.getElem?_eq_getElem h]
  rfl
theorem owns_below17 {w w' : World} {base : Nat} {e : TypeId} {size : Nat} {v : Value} {n : Nat} {xs : List Value} (h : w.ownsRow base e size v n xs) (hb : Below w.heap.size w w') : w'.ownsRow base e size v n xs := by
  obtain ⟨h1, h2⟩ := h
  refine ⟨h1, ?_⟩
  rcases h2 with h2 | ⟨g, cap, cur, hv, hg, hh, r⟩
  · exact Or.inl h2
  · refine Or.inr ⟨g, cap, cur, hv, hg, ?_, r⟩
    have hlt : g < w.heap.size := by
      apply Nat.lt_of_not_le
      intro hle
      rw [Array.getElem?_eq_none hle] at hh
      simp at hh
    rw [hb.block g hlt]; exact hh
set_option maxRecDepth 20000 in
set_option maxHeartbeats 4000000 in
theorem rkeys_any (w : World) : Calls Try.prog 16 #[] w fun e w' => ∃ v, e = .returned v ∧ w'.ownsRow w.heap.size 36 1 v 80 (rowU keys80) ∧ Below w.heap.size w w' := by
  obtain ⟨i0, hi, hz0, hz1, hz2⟩ := info_parts Try.sinfo_u64
  go_enter Try.func16, Try.ntmps16
  go_wp2_with fail
  go_loopw [1, 2] (fun v i wr => ∃ k : Nat, k ≤ 80 ∧ i = .int .i64 (k : Int) ∧ wr.ownsRow w.heap.size 36 1 v k (rowU (keys80.take k)) ∧ Below w.heap.size w wr) (fun _ i _ => 80 - (Go.RowKit.intOf i).toNat)
  case atStart => exact ⟨0, by omega, rfl, World.ownsRow_nil _ _ _ _, Below.refl _ _⟩
  case round =>
    obtain ⟨k, hk, rfl, hown, hbe⟩ := hrel
    by_cases hlt : k < 80
    · have p1 : (k : Int) < 80 := by omega
      have KP := Lib.hid (fun w => rprime_at k (by omega) w)
      have KR := Lib.hid (fun w => rcube_at k hlt w)
      have c := List.all_eq_true.1 cube_ok k (List.mem_range.2 hlt)
      simp only [Bool.and_eq_true, decide_eq_true_eq] at c
      have hkey := c.2
      have HT := Lib.hid (take_next keys80 k hlt)
      obtain ⟨p, hp⟩ : ∃ p, primes80.getD k 0 = p := ⟨_, rfl⟩
      obtain ⟨r, hr⟩ : ∃ r, cubes80.getD k 0 % 18446744073709551616 = r := ⟨_, rfl⟩
      obtain ⟨q, hq⟩ : ∃ q, keys80.getD k 0 = q := ⟨_, rfl⟩
      rw [hr, hq] at hkey
      rw [hp] at KP KR
      rw [hr] at KR
      rw [hq] at HT
      have sz := hbe.size
      subst hkey
      have hrb : r < 18446744073709551616 := by rw [← hr]; exact Nat.mod_lt _ (by decide)
      clear c hp hr hq
      go_wp2_with fail
      refine (KP.out _).mono ?_
      rintro e w1 ⟨rfl, rfl⟩
      go_wp2_with fail
      refine (KR.out _).mono ?_
      rintro e w2 ⟨rfl, hb2⟩
      have hown2 := owns_below17 hown hb2
      have hbe2 := hbe.trans (hb2.mono sz)
      have sz2 := hbe2.size
      clear hown hbe hb2 sz
      go_wp2_with (at_builtin; refine wpList_append_own _ (by rfl) (.tmp 7) (.tmp 11) 33 (by rfl) w.heap.size 36 i0 (.int .u64 0) 1 8 Try.underlying33 hi hz0 hz1 hz2 rfl (by decide) _ k _ (by simp [Act.eval]; rfl) (by exact hown2.alloc _) ⟨w2.heap.size, 0, none⟩ 1 1 [.int .u64 (r : Int)] (by simp [Act.eval]) rfl (by exact news_new w2 #[_] _) (by simp [Value.oneCell']) (by unfold maxLen; omega) (by omega) (by simp; omega) ?_; intro v3 w3 hown3 hgrow3 _)
      go_roundw
      case rel =>
        refine ⟨k + 1, by omega, congrArg (Value.int .i64) (by omega), ?_, (gr_alloc hbe2 _).grown hgrow3 (by simp; omega) (fun j hj => (hown2.lt j hj).1)⟩
        rw [HT.out, rowU_snoc]
        exact hown3
      case measure =>
        simp [Go.RowKit.intOf]
        omega
    · obtain rfl : k = 80 := by omega
      have p1 : ¬ (80 : Int) < 80 := by omega
      rw [show keys80.take 80 = keys80 from rfl] at hown
      have HO := Lib.hid hown
      have HB := Lib.hid hbe
      clear hown hbe
      go_wp2_with fail
      go_ret
      exact ⟨_, rfl, HO.out, HB.out⟩
set_option maxRecDepth 20000 in
set_option maxHeartbeats 4000000 in
theorem rbegin_any (w : World) : Calls Try.prog 15 #[] w fun e w' => ∃ v, e = .returned v ∧ w'.ownsRow w.heap.size 36 1 v 8 (rowU begin8) ∧ Below w.heap.size w w' := by
  obtain ⟨i0, hi, hz0, hz1, hz2⟩ := info_parts Try.sinfo_u64
  go_enter Try.func15, Try.ntmps15
  go_wp2_with fail
  go_loopw [1, 2] (fun v i wr => ∃ k : Nat, k ≤ 8 ∧ i = .int .i64 (k : Int) ∧ wr.ownsRow w.heap.size 36 1 v k (rowU (begin8.take k)) ∧ Below w.heap.size w wr) (fun _ i _ => 8 - (Go.RowKit.intOf i).toNat)
  case atStart => exact ⟨0, by omega, rfl, World.ownsRow_nil _ _ _ _, Below.refl _ _⟩
  case round =>
    obtain ⟨k, hk, rfl, hown, hbe⟩ := hrel
    by_cases hlt : k < 8
    · have p1 : (k : Int) < 8 := by omega
      have KP := Lib.hid (fun w => rprime_at k (by omega) w)
      have KR := Lib.hid (fun w => rsquare_at k hlt w)
      have c := List.all_eq_true.1 square_ok8 k (List.mem_range.2 hlt)
      simp only [Bool.and_eq_true, decide_eq_true_eq] at c
      have hkey := c.2
      have HT := Lib.hid (take_next begin8 k hlt)
      obtain ⟨p, hp⟩ : ∃ p, primes80.getD k 0 = p := ⟨_, rfl⟩
      obtain ⟨r, hr⟩ : ∃ r, squares8.getD k 0 % 18446744073709551616 = r := ⟨_, rfl⟩
      obtain ⟨q, hq⟩ : ∃ q, begin8.getD k 0 = q := ⟨_, rfl⟩
      rw [hr, hq] at hkey
      rw [hp] at KP KR
      rw [hr] at KR
      rw [hq] at HT
      have sz := hbe.size
      subst hkey
      have hrb : r < 18446744073709551616 := by rw [← hr]; exact Nat.mod_lt _ (by decide)
      clear c hp hr hq
      go_wp2_with fail
      refine (KP.out _).mono ?_
      rintro e w1 ⟨rfl, rfl⟩
      go_wp2_with fail
      refine (KR.out _).mono ?_
      rintro e w2 ⟨rfl, hb2⟩
      have hown2 := owns_below17 hown hb2
      have hbe2 := hbe.trans (hb2.mono sz)
      have sz2 := hbe2.size
      clear hown hbe hb2 sz
      go_wp2_with (at_builtin; refine wpList_append_own _ (by rfl) (.tmp 7) (.tmp 11) 33 (by rfl) w.heap.size 36 i0 (.int .u64 0) 1 8 Try.underlying33 hi hz0 hz1 hz2 rfl (by decide) _ k _ (by simp [Act.eval]; rfl) (by exact hown2.alloc _) ⟨w2.heap.size, 0, none⟩ 1 1 [.int .u64 (r : Int)] (by simp [Act.eval]) rfl (by exact news_new w2 #[_] _) (by simp [Value.oneCell']) (by unfold maxLen; omega) (by omega) (by simp; omega) ?_; intro v3 w3 hown3 hgrow3 _)
      go_roundw
      case rel =>
        refine ⟨k + 1, by omega, congrArg (Value.int .i64) (by omega), ?_, (gr_alloc hbe2 _).grown hgrow3 (by simp; omega) (fun j hj => (hown2.lt j hj).1)⟩
        rw [HT.out, rowU_snoc]
        exact hown3
      case measure =>
        simp [Go.RowKit.intOf]
        omega
    · obtain rfl : k = 8 := by omega
      have p1 : ¬ (8 : Int) < 8 := by omega
      rw [show begin8.take 8 = begin8 from rfl] at hown
      have HO := Lib.hid hown
      have HB := Lib.hid hbe
      clear hown hbe
      go_wp2_with fail
      go_ret
      exact ⟨_, rfl, HO.out, HB.out⟩
end Go.Proofs.Ytmjbhmpogpagjaa
