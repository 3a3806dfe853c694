/- KeepGrows (layer 32): its walk. -/
import Derived.Test.YtbheiglbejokmaaKepO
namespace Go.Proofs.Ytbheiglbejokmaa
set_option maxRecDepth 20000
set_option linter.unusedSimpArgs false
set_option linter.unusedVariables false
open Go.RowKit Go.Sort Go.Lib Go.MapKept
attribute [local go_sem] Oper.semAt_some
theorem any_take (l : List ByteArray) (x : ByteArray) (j : Nat) (h : j < l.length) : (l.take (j + 1)).any (fun y => decide (x = y)) = ((l.take j).any (fun y => decide (x = y)) || decide (x = l.getD j ByteArray.empty)) := by
  rw [take_getD l j h, List.any_append]
  simp
set_option maxHeartbeats 4000000 in
set_option maxRecDepth 20000 in
theorem grows_any (W : World) (v n : Int) (kind : ByteArray) (hn : 1 + v % 10 = n) (h1 : 1 ≤ n) (h2 : n ≤ 10) (hv0 : 0 ≤ v) (hv1 : v ≤ 255) (la lb l m : List ByteArray) (al : Bool)
    (ea : contL n kind = la) (eb : contL (n + 1) kind = lb) (el : topL n = l) (em : topL (n + 1) = m) (every : Bool) (ev2 : allB (n + 1) kind = every) (ev1 : allB n kind = false) (hal : (kind.toList == [109, 46, 114, 111, 111, 109, 46, 97, 108, 105, 97, 115, 101, 115]) = al)
    (hml : m.length ≤ l.length) (hm0 : 0 < m.length) (hmm : m.length ≤ 1000) (hll : l.length ≤ 1000) (hla : la.length ≤ 1000) (hlb : lb.length ≤ 1000)
    (H1 : ∀ k, k < la.length → ((every || al) || lb.any (fun y => decide (la.getD k ByteArray.empty = y))) = true)
    (H2 : ∀ k, k < m.length → l.any (fun y => decide (m.getD k ByteArray.empty = y)) = true)
    (H3 : ∀ p, p + 1 < m.length → Op.bytesLess (m.getD p ByteArray.empty).toList (m.getD (p + 1) ByteArray.empty).toList = true) :
    Calls Try.prog 6 #[.int .u8 v, .string kind] W fun e w' => e = .returned (.bool true) ∧ Below W.heap.size W w' := by
  have K1 := Lib.hid (fun w => content_any w n kind)
  have K2 := Lib.hid (fun w => content_any w (n + 1) kind)
  have K3 := Lib.hid (fun w => top_any w n)
  have K4 := Lib.hid (fun w => top_any w (n + 1))
  rw [ea, ev1] at K1
  rw [eb, ev2] at K2
  rw [el] at K3
  rw [em] at K4
  have HH1 := Lib.hid H1
  have HH2 := Lib.hid H2
  have HASC := Lib.hid H3
  clear H3
  generalize ev n = e1 at K3
  generalize ev (n + 1) = e2 at K4
  have HLL := Lib.hid (And.intro hml (And.intro hm0 (And.intro hmm (And.intro hll (And.intro hla hlb)))))
  have HN := Lib.hid hn
  have HAL := Lib.hid hal
  clear ea eb el em ev2 ev1 H1 H2 hml hm0 hmm hll hla hlb hn hal
  go_enter Try.func6, Try.ntmps6
  go_upto_region 2 with fail
  rw [HN.out]
  generalize v % 10 = q0
  clear HN
  go_upto_region 3 with (go_at_call 22; refine (K1.out W).mono ?_; rintro e w1 ⟨x1, rfl, t1, b1⟩)
  have T1 := Lib.hid t1
  have B1 := Lib.hid b1
  clear t1 b1
  go_upto_region 4 with (go_at_call 22; refine (K2.out w1).mono ?_; rintro e w2 ⟨x2, rfl, t2, b2⟩)
  have T1' := Lib.hid (T1.out.keep b2)
  have T2 := Lib.hid t2
  have B2 := Lib.hid (B1.out.trans (b2.mono B1.out.size))
  clear t2 b2 B1 T1
  go_upto_region 5 with (go_at_call 19; refine (K3.out w2).mono ?_; rintro e w3 ⟨x3, rfl, t3, b3⟩)
  have T1 := Lib.hid (T1'.out.keep b3)
  have T2' := Lib.hid (T2.out.keep b3)
  have T3 := Lib.hid t3
  have B3 := Lib.hid (B2.out.trans (b3.mono B2.out.size))
  clear t3 b3 B2 T2 T1'
  go_upto_region 6 with (go_at_call 19; refine (K4.out w3).mono ?_; rintro e w4 ⟨x4, rfl, t4, b4⟩)
  obtain ⟨a1, k1, rfl, m1, mm1, C1⟩ := (T1.out.keep b4).open_
  obtain ⟨a2, k2, rfl, m2, mm2, C2⟩ := (T2'.out.keep b4).open_
  obtain ⟨a3, k3, rfl, m3, mm3, C3⟩ := (T3.out.keep b4).open_
  obtain ⟨a4, k4, rfl, m4, mm4, C4⟩ := t4.open_
  have B4 := Lib.hid (B3.out.trans (b4.mono B3.out.size))
  have C1' := Lib.hid C1
  have C2' := Lib.hid C2
  have C3' := Lib.hid C3
  have C4' := Lib.hid C4
  have KL := Lib.hid (keepLives_any w4)
  clear C1 C2 C3 C4 b4 t4 B3 T1 T2' T3 K1 K2 K3 K4
  obtain ⟨hml, hm0, hmm, hll, hla, hlb⟩ := HLL.out
  clear HLL
  obtain ⟨n1, en1⟩ : ∃ z, z = la.length := ⟨_, rfl⟩
  obtain ⟨n2, en2⟩ : ∃ z, z = lb.length := ⟨_, rfl⟩
  obtain ⟨n3, en3⟩ : ∃ z, z = l.length := ⟨_, rfl⟩
  obtain ⟨n4, en4⟩ : ∃ z, z = m.length := ⟨_, rfl⟩
  rw [← en1] at hla m1 HH1 C1' ⊢
  rw [← en2] at hlb m2 C2' ⊢
  rw [← en3] at hml hll m3 C3' ⊢
  rw [← en4] at hml hm0 hmm m4 HH2 HASC C4' ⊢
  have E2 := Lib.hid en2
  have E3 := Lib.hid en3
  clear en1 en2 en3 en4
  have i1 : ¬ ((n4 : Int) > (n3 : Int)) := by omega
  have i2 : ((n4 : Int) == 0) = false := by simp; omega
  obtain ⟨e0, he0⟩ : ∃ z, z = (every || al) := ⟨_, rfl⟩
  rw [← he0] at HH1
  have hal := HAL.out
  clear HAL
  cases every <;> cases al <;>
  · have HE0 := Lib.hid he0
    clear he0
    go_wp2_with fail
    go_loop [71] (fun i => ∃ k : Nat, k ≤ n1 ∧ i = .int .i64 k) (fun i => n1 - (intOf i).toNat)
    case atStart => exact ⟨0, by omega, rfl⟩
    case round =>
      obtain ⟨k, hk, rfl⟩ := hrel
      by_cases hlt : k < n1
      · obtain ⟨g1, rfl, c1⟩ := C1'.out k hlt
        have hlti : (k : Int) < n1 := by omega
        have HX := Lib.hid (HH1.out k hlt)
        generalize la.getD k ByteArray.empty = x at c1 HX
        go_wp2_with fail
        go_loop [16, 82] (fun hv jv => ∃ j : Nat, j ≤ n2 ∧ jv = .int .i64 j ∧ hv = .bool (e0 || (lb.take j).any fun y => decide (x = y))) (fun _ jv => n2 - (intOf jv).toNat)
        case atStart => exact ⟨0, by omega, rfl, by rw [HE0.out]; simp⟩
        case round =>
          obtain ⟨j, hj, rfl, rfl⟩ := hrel
          generalize hA : (e0 || (lb.take j).any fun y => decide (x = y)) = A
          have HA := Lib.hid hA
          clear hA
          by_cases hlt2 : j < n2
          · obtain ⟨g2, rfl, c2⟩ := C2'.out j hlt2
            have hltj : (j : Int) < n2 := by omega
            have HS := Lib.hid (any_take lb x j (by have := E2.out; omega))
            generalize lb.getD j ByteArray.empty = y at c2 HS
            cases A with
            | true =>
              go_wp2_with fail
              go_round
              case rel => exact ⟨j + 1, by omega, by go_num, by rw [HS.out, ← Bool.or_assoc, HA.out]; rfl⟩
              case measure => simp [intOf]; omega
            | false =>
              by_cases hxy : x = y
              · subst hxy
                go_wp2_with fail
                go_round
                case rel => exact ⟨j + 1, by omega, by go_num, by rw [HS.out, ← Bool.or_assoc, HA.out]; simp⟩
                case measure => simp [intOf]; omega
              · have c3 : (x.toList == y.toList) = false := text_ne hxy
                have HXY := Lib.hid hxy
                clear hxy
                go_wp2_with fail
                go_round
                case rel => exact ⟨j + 1, by omega, by go_num, by rw [HS.out, ← Bool.or_assoc, HA.out]; simp [HXY.out]⟩
                case measure => simp [intOf]; omega
          · have hjn : j = n2 := by omega
            have hAt : A = true := by
              rw [← HA.out, hjn, List.take_of_length_le (by have := E2.out; omega)]
              exact HX.out
            subst hAt
            go_wp2_with fail
            go_round
            case rel => exact ⟨k + 1, by omega, by go_num⟩
            case measure => simp [intOf]; omega
      · go_wp2_with fail
        go_loop [98] (fun i => ∃ k : Nat, k ≤ n4 ∧ i = .int .i64 k) (fun i => n4 - (intOf i).toNat)
        case atStart => exact ⟨0, by omega, rfl⟩
        case round =>
          obtain ⟨q, hq, rfl⟩ := hrel
          by_cases hlq : q < n4
          · obtain ⟨g4, rfl, c4⟩ := C4'.out q hlq
            have hlqi : (q : Int) < n4 := by omega
            have HX := Lib.hid (HH2.out q hlq)
            obtain ⟨x, ex⟩ : ∃ z, z = m.getD q ByteArray.empty := ⟨_, rfl⟩
            rw [← ex] at c4 HX
            have EX := Lib.hid ex
            clear ex
            go_wp2_with fail
            go_loop [21, 105] (fun hv jv => ∃ j : Nat, j ≤ n3 ∧ jv = .int .i64 j ∧ hv = .bool ((l.take j).any fun y => decide (x = y))) (fun _ jv => n3 - (intOf jv).toNat)
            case atStart => exact ⟨0, by omega, rfl, by simp⟩
            case round =>
              obtain ⟨j, hj, rfl, rfl⟩ := hrel
              generalize hA : ((l.take j).any fun y => decide (x = y)) = A
              have HA := Lib.hid hA
              clear hA
              by_cases hlt2 : j < n3
              · obtain ⟨g3, rfl, c3⟩ := C3'.out j hlt2
                have hltj : (j : Int) < n3 := by omega
                have HS := Lib.hid (any_take l x j (by have := E3.out; omega))
                generalize l.getD j ByteArray.empty = y at c3 HS
                cases A with
                | true =>
                  go_wp2_with fail
                  go_round
                  case rel => exact ⟨j + 1, by omega, by go_num, by rw [HS.out, HA.out]; rfl⟩
                  case measure => simp [intOf]; omega
                | false =>
                  by_cases hxy : x = y
                  · subst hxy
                    go_wp2_with fail
                    go_round
                    case rel => exact ⟨j + 1, by omega, by go_num, by rw [HS.out, HA.out]; simp⟩
                    case measure => simp [intOf]; omega
                  · have c5 : (x.toList == y.toList) = false := text_ne hxy
                    have HXY := Lib.hid hxy
                    clear hxy
                    go_wp2_with fail
                    go_round
                    case rel => exact ⟨j + 1, by omega, by go_num, by rw [HS.out, HA.out]; simp [HXY.out]⟩
                    case measure => simp [intOf]; omega
              · have hjn : j = n3 := by omega
                have hAt : A = true := by
                  rw [← HA.out, hjn, List.take_of_length_le (by have := E3.out; omega)]
                  exact HX.out
                subst hAt
                clear HA HX
                rcases Nat.eq_zero_or_pos q with h0 | h0
                · subst h0
                  go_wp2_with fail
                  go_round
                  case rel => exact ⟨1, by omega, by go_num⟩
                  case measure => simp [intOf]; omega
                · obtain ⟨p, rfl⟩ : ∃ p, q = p + 1 := ⟨q - 1, by omega⟩
                  obtain ⟨g5, e5, c5⟩ := C4'.out p (by omega)
                  cases e5
                  have hp1 : ((p + 1 : Nat) : Int) - 1 = (p : Int) := by omega
                  have hp2 : (p : Int) < n4 := by omega
                  have hp3 : decide (((p + 1 : Nat) : Int) > 0) = true := decide_eq_true (by omega)
                  have hbl := HASC.out p hlq
                  rw [← EX.out] at hbl
                  generalize m.getD p ByteArray.empty = z at c5 hbl
                  go_wp2_with fail
                  go_round
                  case rel => exact ⟨p + 1 + 1, by omega, by go_num⟩
                  case measure => simp [intOf]; omega
          · go_wp2_with (go_at_call 26; refine KL.out.mono ?_; rintro e w7 ⟨rfl, b7⟩)
            exact bodyPost_ret (results_slot rfl rfl) rfl ⟨rfl, B4.out.trans (b7.mono B4.out.size)⟩
end Go.Proofs.Ytbheiglbejokmaa
