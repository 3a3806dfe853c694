/- esc (layer 4): what pieces hands on to; the bits of it. -/
import Derived.Test.YtcadklhjhjbhaaaDoorEscO
import Derived.Test.YtcadklhjhjbhaaaDoorRgn
import Derived.Test.YtcadklhjhjbhaaaDoorStr
import Derived.RangeFuncBox
namespace Go.Proofs.YtcadklhjhjbhaaaDoor
set_option maxRecDepth 20000
set_option linter.unusedSimpArgs false
set_option linter.unusedVariables false
open Go.RowKit Go.Lib Go.Shelf
attribute [local go_sem] Oper.semAt_some
/-- All but one block, and rows of bytes, are as they were. -/
structure Frm (B c : Nat) (W W' : World) : Prop where
  low : Below B W W'
  block : ∀ k o, W.heap[k]? = some o → k ≠ c → (∀ cs fz, o ≠ .cells cs ByTy fz) → W'.heap[k]? = some o
theorem Frm.boxed {B c k : Nat} {W W' : World} {t : TypeId} {v : Value} (h : Frm B c W W') (hb : Boxed W k t v) (hk : k ≠ c) (ht : t ≠ ByTy) : Boxed W' k t v :=
  h.block k _ hb hk (fun cs fz e => by cases e; exact ht rfl)
/-- What pieces are handed to: a function that puts them behind what it has. -/
structure PutOK (f : FuncId) (cap : Array Value) (B c : Nat) (St : List UInt8 → World → Prop) : Prop where
  ent : ∀ args w, (callFunc f args).run Tryd.prog w = .ok (.enter f args) w
  cells : ∀ acc W, St acc W → ∃ o, W.heap[c]? = some o ∧ o.isCells = true
  low : B ≤ c
  call : ∀ acc P W, St acc W → acc.length + P.length ≤ 100000 → B ≤ W.heap.size → Calls Tryd.prog f (#[.string ⟨P.toArray⟩] ++ cap) W fun e W' => e = .returned (.tuple #[]) ∧ St (acc ++ P) W' ∧ Frm B c W W'
  keep : ∀ acc W W', St acc W → (∀ k o, W.heap[k]? = some o → o.isCells = true → (k = c ∨ ∃ cs fz, o = .cells cs ByTy fz) → W'.heap[k]? = some o) → St acc W'
theorem PutOK.own {f : FuncId} {cap : Array Value} {B c : Nat} {St : List UInt8 → World → Prop} (h : PutOK f cap B c St) {acc : List UInt8} {W W' : World} {row : Option Nat} (hs : St acc W) (hg : W.grownBy W' row) (hr : ∀ r, row = some r → ∃ o : Obj, W.heap[r]? = some o ∧ o.isCells = false) : St acc W' :=
  h.keep acc W W' hs fun k o ho hc _ => (hg.block k (Array.getElem?_eq_some_iff.1 ho).1 (fun e => by
    obtain ⟨o', ho', hf⟩ := hr k e.symm
    rw [ho] at ho'
    cases ho'
    rw [hc] at hf
    cases hf)).trans ho
theorem Frm.after {B c : Nat} {W W1 W' : World} (hb : Below W.heap.size W W1) (hB : B ≤ W.heap.size) (h : Frm B c W1 W') : Frm B c W W' := ⟨(hb.mono hB).trans h.low, fun k o ho hk hf => h.block k o ((hb.block k (Array.getElem?_eq_some_iff.1 ho).1).trans ho) hk hf⟩
theorem Frm.keeps {B c : Nat} {W W' : World} (h : Frm B c W W') (hc : ∃ o, W.heap[c]? = some o ∧ o.isCells = true) : KeepsOthers W W' := ⟨h.low.size, fun k o ho hf => h.block k o ho (fun e => by
    obtain ⟨o', ho', ht⟩ := hc
    rw [e, ho'] at ho
    cases ho
    rw [ht] at hf
    cases hf) (fun cs fz e => by rw [e] at hf; cases hf)⟩
theorem PutOK.below {f : FuncId} {cap : Array Value} {B c : Nat} {St : List UInt8 → World → Prop} (h : PutOK f cap B c St) {acc : List UInt8} {W W' : World} (hs : St acc W) (hb : Below W.heap.size W W') : St acc W' :=
  h.keep acc W W' hs fun k o ho _ _ => (hb.block k (Array.getElem?_eq_some_iff.1 ho).1).trans ho
theorem run_call_val {o : Oper} {A : Act} {x y : Operand} {v : Value} {tys : Array TypeId} {f : FuncId} {cap : Array Value} (W : World) (ho : o.op = .call { callee := .value x, args := #[y], argTypes := tys }) (hx : A.eval x = .func (.func f) #[] cap) (hy : A.eval y = v) (hent : ∀ args w, (callFunc f args).run Tryd.prog w = .ok (.enter f args) w) : (execOp A.eval o).run Tryd.prog W = .ok (.enter f (#[v] ++ cap)) W := by
  have h : execOp A.eval o = callFunc f (#[] ++ #[y].map A.eval ++ cap) := by
    unfold execOp
    rw [ho]
    simp only
    unfold resolve
    simp only
    rw [hx]
    rfl
  rw [h, hent]
  simp [hy]
theorem PutOK.set {f : FuncId} {cap : Array Value} {B c : Nat} {St : List UInt8 → World → Prop} (h : PutOK f cap B c St) {acc : List UInt8} {W : World} {k : Nat} {t : TypeId} {v : Value} (hs : St acc W) (hb : Boxed W k t v) (hk : k ≠ c) (ht : t ≠ ByTy) (v' : Value) : St acc (W.setCell ⟨k, 0, none⟩ v') :=
  h.keep acc W _ hs fun k' o ho _ hor => (Below.heap_setCell W ⟨k, 0, none⟩ _ _ (by
    show k' ≠ k
    rintro rfl
    rcases hor with e | ⟨cs, fz, e⟩
    · exact hk e
    · have hb2 : W.heap[k']? = some _ := hb
      rw [hb2] at ho
      cases ho
      cases e
      exact ht rfl)).trans ho
theorem run_cvE {P : Program} {o : Oper} {A : Act} {t t' : TypeId} {x : Operand} {u v : Value} {W W' : World} (ho : o.op = .convert t t' x) (hx : A.eval x = u) (h : (convert t t' u).run P W = .ok v W') : (execOp A.eval o).run P W = .ok (.value v) W' := by
  unfold execOp
  simp only [ho, hx, Sem.run_bind, h, Result.andThen_ok]
  rfl
theorem bytes_text2 (c d : UInt8) (b : Nat) (W : World) (hb : W.heap[b]? = some (.cells #[.int .u8 (c.toNat : Int), .int .u8 (d.toNat : Int)] 5 (0, 0))) : (convert 51 9 (.slice (some ⟨b, 0, none⟩) 2 2)).run Tryd.prog W = .ok (.string ⟨#[c, d]⟩) W :=
  run_convert_bytes_back (P := Tryd.prog) W 51 9 5 ⟨b, 0, none⟩ 2 [c, d] Tryd.underlying51 Tryd.underlying5 Tryd.underlying9 (fun j hj => by
    have hadd : (⟨b, 0, none⟩ : Addr).add j = ⟨b, j, none⟩ := by unfold Addr.add; split <;> simp_all
    rw [hadd]
    have j0 : j = 0 ∨ j = 1 := by simp at hj; omega
    rcases j0 with rfl | rfl <;> simp [World.cell?, hb])
theorem bs_u82 (a b : Int) (W : World) : (Instr.buildSlice 51 2 #[(0, .int .u8 a), (1, .int .u8 b)]).run Tryd.prog W = .ok (.slice (some ⟨W.heap.size, 0, none⟩) 2 2) (W.alloc (.cells #[.int .u8 a, .int .u8 b] 5 (0, 0))) := by
  go_simp
theorem shr4 (n : Nat) (h : n < 32) (x y : Operand) (W : World) : (do eqGuard .shr 21 x y (i32 (n : Int)) (.int .u64 4); binOp .shr 21 (i32 (n : Int)) (.int .u64 4) : Sem Value).run Tryd.prog W = .ok (i32 ((n / 16 : Nat) : Int)) W :=
  match n, h with
  | 0, _ => rfl
  | 1, _ => rfl
  | 2, _ => rfl
  | 3, _ => rfl
  | 4, _ => rfl
  | 5, _ => rfl
  | 6, _ => rfl
  | 7, _ => rfl
  | 8, _ => rfl
  | 9, _ => rfl
  | 10, _ => rfl
  | 11, _ => rfl
  | 12, _ => rfl
  | 13, _ => rfl
  | 14, _ => rfl
  | 15, _ => rfl
  | 16, _ => rfl
  | 17, _ => rfl
  | 18, _ => rfl
  | 19, _ => rfl
  | 20, _ => rfl
  | 21, _ => rfl
  | 22, _ => rfl
  | 23, _ => rfl
  | 24, _ => rfl
  | 25, _ => rfl
  | 26, _ => rfl
  | 27, _ => rfl
  | 28, _ => rfl
  | 29, _ => rfl
  | 30, _ => rfl
  | 31, _ => rfl
  | k + 32, h => absurd h (by omega)
theorem and15 (n : Nat) (h : n < 32) (x y : Operand) (W : World) : (do eqGuard .and 21 x y (i32 (n : Int)) (i32 15); binOp .and 21 (i32 (n : Int)) (i32 15) : Sem Value).run Tryd.prog W = .ok (i32 ((n % 16 : Nat) : Int)) W :=
  match n, h with
  | 0, _ => rfl
  | 1, _ => rfl
  | 2, _ => rfl
  | 3, _ => rfl
  | 4, _ => rfl
  | 5, _ => rfl
  | 6, _ => rfl
  | 7, _ => rfl
  | 8, _ => rfl
  | 9, _ => rfl
  | 10, _ => rfl
  | 11, _ => rfl
  | 12, _ => rfl
  | 13, _ => rfl
  | 14, _ => rfl
  | 15, _ => rfl
  | 16, _ => rfl
  | 17, _ => rfl
  | 18, _ => rfl
  | 19, _ => rfl
  | 20, _ => rfl
  | 21, _ => rfl
  | 22, _ => rfl
  | 23, _ => rfl
  | 24, _ => rfl
  | 25, _ => rfl
  | 26, _ => rfl
  | 27, _ => rfl
  | 28, _ => rfl
  | 29, _ => rfl
  | 30, _ => rfl
  | 31, _ => rfl
  | k + 32, h => absurd h (by omega)
theorem hex_at (q : Nat) (h : q < 16) : (⟨#[48, 49, 50, 51, 52, 53, 54, 55, 56, 57, 97, 98, 99, 100, 101, 102]⟩ : ByteArray)[q]? = some (hexC q) :=
  match q, h with
  | 0, _ => rfl
  | 1, _ => rfl
  | 2, _ => rfl
  | 3, _ => rfl
  | 4, _ => rfl
  | 5, _ => rfl
  | 6, _ => rfl
  | 7, _ => rfl
  | 8, _ => rfl
  | 9, _ => rfl
  | 10, _ => rfl
  | 11, _ => rfl
  | 12, _ => rfl
  | 13, _ => rfl
  | 14, _ => rfl
  | 15, _ => rfl
  | k + 16, h => absurd h (by omega)
theorem conv_let {n cc : Nat} (h : letV n = some cc) (W : World) : (convert 21 9 (i32 (cc : Int))).run Tryd.prog W = .ok (.string ⟨#[UInt8.ofNat cc]⟩) W := by
  unfold letV at h
  repeat' split at h
  all_goals first | (cases h; first | rfl | (go_simp; done) | (go_simp; rfl)) | (cases h)
theorem all_next (n : Nat) (hn : 1 ≤ n) (Bs n₀ : Nat) (s : ByteArray) (hs : s.size ≤ 100000) (w : World) (hn0 : n₀ ≤ w.heap.size) (hBs : w.cell? ⟨Bs, 0, none⟩ = some (.string s)) (hT : ∀ W', Below n₀ w W' → Tabs W') :
    SeqNext Fence.wide n Tryd.prog 62 #[.pointer (some ⟨Bs, 0, none⟩)] (fun x : Nat × Nat => #[Value.int .i64 (x.1 : Int), Value.int .i32 (x.2 : Int)]) (KpV n₀ Bs) (cpsAt s.data.toList 0) w := fun l J W hW hJ hY h0 => by
  have hb : Below n₀ w W := hW.mono hn0
  have hlt : ∀ {A : World}, A.cell? ⟨Bs, 0, none⟩ = some (.string s) → Bs < A.heap.size := fun {A} h => by
    apply Nat.lt_of_not_le
    intro hle
    simp [World.cell?, Array.getElem?_eq_none hle] at h
  refine (all1_in n hn l Bs n₀ s hs (KpV n₀ Bs) (fun A B h => ⟨h.1, fun hc => (World.cell?_of_block (w := A) (a := ⟨Bs, 0, none⟩) (h.2 (hlt hc))).trans hc⟩) J (fun _ _ => False) (fun pre W1 W' h hbb => hJ pre W1 W' none h (below_none hbb) (fun r e => by cases e)) (fun pre x W1 h _ hx => ?_) W (Nat.le_trans hn0 hW.size)
    ((hW.cell (p := ⟨Bs, 0, none⟩) (hlt hBs)).trans hBs) (fun W' h => hT W' (hb.trans h)) h0).mono fun e W' he => ?_
  · obtain ⟨fn, tmps, assign, body, hy, hR⟩ := hY pre x W1 h hx
    exact ⟨fn, tmps, assign, body, hy, hR.mono fun e W' h => .inl h⟩
  · obtain ⟨hv, ⟨ys, rfl, hj⟩ | ⟨-, -, hf⟩⟩ := he
    · exact ⟨hv, hj⟩
    · exact hf.elim
end Go.Proofs.YtcadklhjhjbhaaaDoor
