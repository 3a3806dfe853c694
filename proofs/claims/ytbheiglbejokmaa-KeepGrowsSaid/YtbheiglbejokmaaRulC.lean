/- field.looks, wrong, Check (layer 29): the first rule by which a node is wrong. -/
import Derived.Test.YtbheiglbejokmaaRulB
namespace Go.Proofs.Ytbheiglbejokmaa
set_option maxRecDepth 20000
set_option linter.unusedSimpArgs false
set_option linter.unusedVariables false
open Go.RowKit Go.Sort Go.Lib Go.MapKept
attribute [local go_sem] Oper.semAt_some
def manyE (ll : Nat) (m : Int) : Int := if 0 < m ∧ m < (ll : Int) then 18 else 0
def longE (s : ByteArray) (m : Int) : Int := if 0 < m ∧ m < (s.size : Int) then 4 else 0
def lowE (z : Int) (low : Bool) : Int := if low = true ∧ z < 0 then 2 else 0
set_option maxRecDepth 100000 in
set_option maxHeartbeats 2000000 in
theorem looks1_any (w : World) (kind n : Int) (s : ByteArray) (ak al : Option Addr) (lk ck ll cl : Nat) (nm : ByteArray) (kd m : Int) (mu lw : Bool) :
    Calls Try.prog 61 #[.agg #[.int .i64 kind, .int .i64 n, .string s, .slice ak lk ck, .slice al ll cl], .agg #[.string nm, .int .i64 kd, .bool mu, .int .i64 m, .bool lw]] w fun e w' => e = .returned (.int .i64 (manyE ll m)) ∧ Below w.heap.size w w' := by
  have hM0 := ((Mem.start w).new1 (.cells #[.int .i64 kind, .int .i64 n, .string s, .slice ak lk ck, .slice al ll cl] 25 (0, 0))).new1 (.cells #[.string nm, .int .i64 kd, .bool mu, .int .i64 m, .bool lw] 35 (0, 0))
  have HB := Lib.hid hM0.below
  clear hM0
  unfold manyE
  by_cases c1 : 0 < m
  · have b1 : decide (m > 0) = true := decide_eq_true c1
    by_cases c2 : m < (ll : Int)
    · have b2 : decide ((ll : Int) > m) = true := decide_eq_true c2
      rw [if_pos ⟨c1, c2⟩]
      go_enter Try.func61, Try.ntmps61
      go_wp2_with fail
      exact bodyPost_ret (results_slot rfl rfl) rfl ⟨rfl, HB.out⟩
    · have b2 : decide ((ll : Int) > m) = false := decide_eq_false c2
      rw [if_neg (fun h => c2 h.2)]
      go_enter Try.func61, Try.ntmps61
      go_wp2_with fail
      exact bodyPost_ret (results_slot rfl rfl) rfl ⟨rfl, HB.out⟩
  · have b1 : decide (m > 0) = false := decide_eq_false c1
    rw [if_neg (fun h => c1 h.1)]
    go_enter Try.func61, Try.ntmps61
    go_wp2_with fail
    exact bodyPost_ret (results_slot rfl rfl) rfl ⟨rfl, HB.out⟩
set_option maxRecDepth 100000 in
set_option maxHeartbeats 2000000 in
theorem looks2_any (w : World) (kind n : Int) (s : ByteArray) (ak al : Option Addr) (lk ck ll cl : Nat) (nm : ByteArray) (kd m : Int) (mu lw : Bool) :
    Calls Try.prog 62 #[.agg #[.int .i64 kind, .int .i64 n, .string s, .slice ak lk ck, .slice al ll cl], .agg #[.string nm, .int .i64 kd, .bool mu, .int .i64 m, .bool lw]] w fun e w' => e = .returned (.int .i64 (longE s m)) ∧ Below w.heap.size w w' := by
  have hM0 := ((Mem.start w).new1 (.cells #[.int .i64 kind, .int .i64 n, .string s, .slice ak lk ck, .slice al ll cl] 25 (0, 0))).new1 (.cells #[.string nm, .int .i64 kd, .bool mu, .int .i64 m, .bool lw] 35 (0, 0))
  have HB := Lib.hid hM0.below
  clear hM0
  unfold longE
  by_cases c1 : 0 < m
  · have b1 : decide (m > 0) = true := decide_eq_true c1
    by_cases c2 : m < (s.size : Int)
    · have b2 : decide ((s.size : Int) > m) = true := decide_eq_true c2
      rw [if_pos ⟨c1, c2⟩]
      go_enter Try.func62, Try.ntmps62
      go_wp2_with fail
      exact bodyPost_ret (results_slot rfl rfl) rfl ⟨rfl, HB.out⟩
    · have b2 : decide ((s.size : Int) > m) = false := decide_eq_false c2
      rw [if_neg (fun h => c2 h.2)]
      go_enter Try.func62, Try.ntmps62
      go_wp2_with fail
      exact bodyPost_ret (results_slot rfl rfl) rfl ⟨rfl, HB.out⟩
  · have b1 : decide (m > 0) = false := decide_eq_false c1
    rw [if_neg (fun h => c1 h.1)]
    go_enter Try.func62, Try.ntmps62
    go_wp2_with fail
    exact bodyPost_ret (results_slot rfl rfl) rfl ⟨rfl, HB.out⟩
set_option maxRecDepth 100000 in
set_option maxHeartbeats 2000000 in
theorem looks3_any (w : World) (kind n : Int) (s : ByteArray) (ak al : Option Addr) (lk ck ll cl : Nat) (nm : ByteArray) (kd m : Int) (mu lw : Bool) :
    Calls Try.prog 63 #[.agg #[.int .i64 kind, .int .i64 n, .string s, .slice ak lk ck, .slice al ll cl], .agg #[.string nm, .int .i64 kd, .bool mu, .int .i64 m, .bool lw]] w fun e w' => e = .returned (.int .i64 (lowE n lw)) ∧ Below w.heap.size w w' := by
  have hM0 := ((Mem.start w).new1 (.cells #[.int .i64 kind, .int .i64 n, .string s, .slice ak lk ck, .slice al ll cl] 25 (0, 0))).new1 (.cells #[.string nm, .int .i64 kd, .bool mu, .int .i64 m, .bool lw] 35 (0, 0))
  have HB := Lib.hid hM0.below
  clear hM0
  unfold lowE
  by_cases c1 : lw = true
  · subst c1
    by_cases c2 : n < 0
    · have b2 : decide (n < 0) = true := decide_eq_true c2
      rw [if_pos ⟨rfl, c2⟩]
      go_enter Try.func63, Try.ntmps63
      go_wp2_with fail
      exact bodyPost_ret (results_slot rfl rfl) rfl ⟨rfl, HB.out⟩
    · have b2 : decide (n < 0) = false := decide_eq_false c2
      rw [if_neg (fun h => c2 h.2)]
      go_enter Try.func63, Try.ntmps63
      go_wp2_with fail
      exact bodyPost_ret (results_slot rfl rfl) rfl ⟨rfl, HB.out⟩
  · have b1 : lw = false := by simpa using c1
    rw [if_neg (fun h => c1 h.1)]
    subst b1
    go_enter Try.func63, Try.ntmps63
    go_wp2_with fail
    exact bodyPost_ret (results_slot rfl rfl) rfl ⟨rfl, HB.out⟩
def lookM : Array MapEntry := #[⟨.int .i64 5, .func (.func 61) #[] #[], 0⟩, ⟨.int .i64 6, .func (.func 61) #[] #[], 1⟩, ⟨.int .i64 4, .func (.func 62) #[] #[], 2⟩, ⟨.int .i64 3, .func (.func 63) #[] #[], 3⟩]
def lookAt (z : Int) : Option (Nat × Value) := if z = 5 then some (0, .func (.func 61) #[] #[]) else if z = 6 then some (1, .func (.func 61) #[] #[]) else if z = 4 then some (2, .func (.func 62) #[] #[]) else if z = 3 then some (3, .func (.func 63) #[] #[]) else none
theorem look_find (z : Int) : Instr.findNow (.int .i64) (.int .i64 z) lookM.toList 0 = some (lookAt z) := by
  unfold lookAt lookM
  by_cases c5 : z = 5
  · subst c5; rfl
  by_cases c6 : z = 6
  · subst c6; rfl
  by_cases c4 : z = 4
  · subst c4; rfl
  by_cases c3 : z = 3
  · subst c3; rfl
  have e5 : (z == 5) = false := by simpa using c5
  have e6 : (z == 6) = false := by simpa using c6
  have e4 : (z == 4) = false := by simpa using c4
  have e3 : (z == 3) = false := by simpa using c3
  simp [Instr.findNow, Instr.sameNow, c5, c6, c4, c3, e5, e6, e4, e3]
theorem un_look : Try.prog.underlying 69 = some (.map 3 102) := Try.underlying69
set_option maxRecDepth 100000 in
theorem looks_any (w : World) : Calls Try.prog 40 #[] w fun e w' => ∃ b, e = .returned (.map (some b)) ∧ w'.heap[b]? = some (.map lookM 4) ∧ w.heap.size ≤ b ∧ Below w.heap.size w w' := by
  go_enter Try.func40, Try.ntmps40
  go_upto_region 2 with fail
  have hM0 := Mem.start w
  refine wp_region_lit ?_
  refine wl_new hM0 (f := fun b => .map (some b)) (ob := .map #[] 0) (fun W => run_mkmap_of rfl W) rfl fun b W1 hM1 => ?_
  simp only [nm0, nm1, nm2, nm3]
  refine wl_pure (v := .func (.func 61) #[] #[]) (fun W => rfl) rfl ?_
  simp only [nm0, nm1, nm2, nm3]
  refine wl_ins hM1 0 (key := .int .i64 5) (val := .func (.func 61) #[] #[]) (es' := #[⟨.int .i64 5, .func (.func 61) #[] #[], 0⟩]) (ck' := 1) (.inl rfl) rfl rfl rfl rfl un_look Try.underlying3 (isKey_int _) rfl rfl rfl rfl rfl fun W2 hM2 => ?_
  simp only [nm2, nm3] at hM2
  refine wl_pure (v := .func (.func 61) #[] #[]) (fun W => rfl) rfl ?_
  simp only [nm0, nm1, nm2, nm3]
  refine wl_ins hM2 0 (key := .int .i64 6) (val := .func (.func 61) #[] #[]) (es' := #[⟨.int .i64 5, .func (.func 61) #[] #[], 0⟩, ⟨.int .i64 6, .func (.func 61) #[] #[], 1⟩]) (ck' := 2) (.inl rfl) rfl rfl rfl rfl un_look Try.underlying3 (isKey_int _) rfl rfl rfl rfl rfl fun W3 hM3 => ?_
  simp only [nm2, nm3] at hM3
  refine wl_ins hM3 0 (key := .int .i64 4) (val := .func (.func 62) #[] #[]) (es' := #[⟨.int .i64 5, .func (.func 61) #[] #[], 0⟩, ⟨.int .i64 6, .func (.func 61) #[] #[], 1⟩, ⟨.int .i64 4, .func (.func 62) #[] #[], 2⟩]) (ck' := 3) (.inl rfl) rfl rfl rfl rfl un_look Try.underlying3 (isKey_int _) rfl rfl rfl rfl rfl fun W4 hM4 => ?_
  simp only [nm2, nm3] at hM4
  refine wl_ins hM4 0 (key := .int .i64 3) (val := .func (.func 63) #[] #[]) (es' := #[⟨.int .i64 5, .func (.func 61) #[] #[], 0⟩, ⟨.int .i64 6, .func (.func 61) #[] #[], 1⟩, ⟨.int .i64 4, .func (.func 62) #[] #[], 2⟩, ⟨.int .i64 3, .func (.func 63) #[] #[], 3⟩]) (ck' := 4) (.inl rfl) rfl rfl rfl rfl un_look Try.underlying3 (isKey_int _) rfl rfl rfl rfl rfl fun W5 hM5 => ?_
  simp only [nm2, nm3] at hM5
  refine wl_pure (v := .map (some b)) (fun W => rfl) rfl ?_
  simp only [nm0, nm1, nm2, nm3]
  refine wl_pure (v := .map (some b)) (fun W => rfl) rfl ?_
  simp only [nm0, nm1, nm2, nm3]
  refine wpList_nil ?_
  have hl := hM5.low _ (List.mem_cons_self ..)
  have hg := hM5.get 0 rfl
  have hb := hM5.below
  go_wp2_with fail
  exact bodyPost_ret (results_slot rfl rfl) rfl ⟨b, rfl, hg, hl, hb⟩
/-- What is wrong with a field by a rule, if the field is there. -/
def Nd.lookE (M : Nd) (r : Rl) : Int := if M.kind = 5 ∨ M.kind = 6 then manyE M.vals.length r.most else if M.kind = 4 then longE M.str r.most else if M.kind = 3 then lowE M.num r.low else 0
def Nd.wrongE (N : Nd) (r : Rl) : Int := if N.has r.name = true then (if r.kind ≠ 0 ∧ r.kind ≠ (N.get r.name).kind then 16 else (N.get r.name).lookE r) else if r.must = true then 15 else 0
def Nd.checkL (N : Nd) : List Rl → ByteArray × Int
  | [] => (ByteArray.empty, 0)
  | r :: L => if N.wrongE r = 0 then N.checkL L else (r.name, N.wrongE r)
def Nd.checkE (N : Nd) (L : List Rl) : ByteArray × Int := if N.kind = 6 then N.checkL L else (ByteArray.empty, 16)
end Go.Proofs.Ytbheiglbejokmaa
