/- Strings in texts of whole rows: index, slice, sum, length. No program in it. -/
import Derived.Test.YtdnkpclpcelbaaaDoorDef
import Derived.Lib.Strings
namespace Go.Proofs.YtdnkpclpcelbaaaDoor
set_option maxRecDepth 20000
set_option linter.unusedSimpArgs false
set_option linter.unusedVariables false
open Go.RowKit Go.Sort
section
variable {P : Program} {o : Oper} {A : Act}
theorem run_idx_str {ty : TypeId} {x y : Operand} {S : ByteArray} {i : Nat} {c : UInt8} {k : IntKind} (W : World) (ho : o.op = .index ty x y) (hx : A.eval x = .string S) (hy : A.eval y = .int k (i : Int)) (hu : P.underlying ty = some .string) (hc : S[i]? = some c) : (execOp A.eval o).run P W = .ok (.value (.int .u8 (c.toNat : Int))) W := by
  unfold execOp
  simp [ho, hx, hy, Instr.index, asIntOf, Sem.run_bind, run_underlying hu W, hc]
theorem run_slc_str {ty : TypeId} {x : Operand} {lo hi mx : Option Operand} {S : ByteArray} {v : Value} (W : World) (ho : o.op = .slice ty x lo hi mx) (hx : A.eval x = .string S) (h : (Instr.sliceAt ty (.string S) (lo.map A.eval) (hi.map A.eval) (mx.map A.eval)).run P W = .ok v W) : (execOp A.eval o).run P W = .ok (.value v) W := by
  unfold execOp
  simp only [ho, hx, Sem.run_bind, h, Result.andThen_ok]
  rfl
theorem slc_str {ty : TypeId} {S : ByteArray} {i j : Nat} {k k' : IntKind} (W : World) (hu : P.underlying ty = some .string) (hij : i ≤ j) (hj : j ≤ S.size) : (Instr.sliceAt ty (.string S) (some (.int k (i : Int))) (some (.int k' (j : Int))) none).run P W = .ok (.string (S.extract i j)) W := by
  have h1 : ((i : Int) ≤ (j : Int)) := by omega
  have h2 : ((j : Int) ≤ (S.size : Int)) := by omega
  simp [Instr.sliceAt, Sem.run_bind, run_underlying hu W, Instr.slice, Instr.sliceBounds, Instr.sliceBound, asIntOf, go_sem, hij, hj]
theorem slc_str_hi {ty : TypeId} {S : ByteArray} {j : Nat} {k' : IntKind} (W : World) (hu : P.underlying ty = some .string) (hj : j ≤ S.size) : (Instr.sliceAt ty (.string S) none (some (.int k' (j : Int))) none).run P W = .ok (.string (S.extract 0 j)) W := by
  simp [Instr.sliceAt, Sem.run_bind, run_underlying hu W, Instr.slice, Instr.sliceBounds, Instr.sliceBound, asIntOf, go_sem, hj]
theorem slc_str_lo {ty : TypeId} {S : ByteArray} {i : Nat} {k : IntKind} (W : World) (hu : P.underlying ty = some .string) (hi : i ≤ S.size) : (Instr.sliceAt ty (.string S) (some (.int k (i : Int))) none none).run P W = .ok (.string (S.extract i S.size)) W := by
  simp [Instr.sliceAt, Sem.run_bind, run_underlying hu W, Instr.slice, Instr.sliceBounds, Instr.sliceBound, asIntOf, go_sem, hi]
theorem inw_readS {ops : Array Oper} {w0 : World} {Q : Act → World → Prop} {o : Oper} {rest : List Oper} {k : Nat} {A : Act} {Ps : List PkW} {ns : List Nat} (j : Nat) (t : Tmp) {n : Nat} {L : Array Value} {T : TypeId} {v : Value} (hf : Ps.filter (waits ops o) = [(j, fun u w' => ∃ b, u = .slice (some ⟨b, 0, none⟩) n n ∧ w'.heap[b]? = some (.cells L T (0, 0)))]) (hd : dstOf ops j = some t)
    (hw : ∀ b, Region.wanted o (yielded ops (A.put (some t) (.slice (some ⟨b, 0, none⟩) n n)).tmps) = true)
    (h : ∀ b W, W.heap[b]? = some (.cells L T (0, 0)) → (execOp (A.put (some t) (.slice (some ⟨b, 0, none⟩) n n)).eval o).run P W = .ok (.value v) W)
    (hr : wpInw P ops w0 Q rest (k + 1) (A.put o.dst v) Ps ns) : wpInw P ops w0 Q (o :: rest) k A Ps ns :=
  .inl ⟨v, fun d os => by
    rw [hf]
    rintro u ⟨b, rfl, hb⟩
    show opOK P ops o _ _ (A.put (dstOf ops j) (.slice (some ⟨b, 0, none⟩) n n))
    rw [hd]
    unfold opOK
    rw [if_pos (hw b), h b _ hb]
    exact ⟨rfl, Below.refl _ _⟩, hr⟩
theorem run_len_str {x : Operand} {tys : Array TypeId} {S : ByteArray} {ty : TypeId} (W : World) (ho : o.op = .call { callee := .builtin .len, args := #[x], argTypes := tys }) (hx : #[x].map A.eval = #[.string S]) (ht : tys[0]? = some ty) (hu : P.underlying ty = some .string) : (execOp A.eval o).run P W = .ok (.value (.int .i64 (S.size : Int))) W := by
  have hx' : A.eval x = .string S := by simpa using hx
  unfold execOp
  simp [ho, resolve, invoke, builtin, hx', Builtin.len_, ht, Sem.run_bind, run_underlying hu W, goInt]
/-- A string's sum. -/
theorem add_str {ty : TypeId} {S T : ByteArray} (x y : Operand) (W : World) (hz : S.size + T.size ≤ 9223372036854775807) : (do eqGuard .add ty x y (.string S) (.string T); binOp .add ty (.string S) (.string T) : Sem Value).run P W = .ok (.string (S ++ T)) W := by
  simp [eqGuard, binOp, Op.stringOp]
  omega
end
end Go.Proofs.YtdnkpclpcelbaaaDoor
