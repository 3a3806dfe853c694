/- tree.Text, Int, Map (layer 7): nodes that are made. -/
import Derived.Test.YtbheiglbejokmaaHld
import Derived.Test.YtbheiglbejokmaaRulE
namespace Go.Proofs.Ytbheiglbejokmaa
set_option maxRecDepth 20000
set_option linter.unusedSimpArgs false
set_option linter.unusedVariables false
open Go.RowKit Go.Sort Go.Lib
attribute [local go_sem] Oper.semAt_some
/-- Nodes in a row. -/
structure IsNds (w : World) (a : Option Addr) (len : Nat) (kid : Nat → List Value) (Ns : List Nd) : Prop where
  len_ : Ns.length = len
  max : len ≤ maxLen
  row : RowAt w a len 5 kid
  kids : ∀ (i : Nat) (h : i < Ns.length), IsNd w (kid i) Ns[i]
theorem IsNds.keep {w w' : World} {a : Option Addr} {len : Nat} {kid : Nat → List Value} {Ns : List Nd} (h : IsNds w a len kid Ns) (hb : Below w.heap.size w w') : IsNds w' a len kid Ns :=
  ⟨h.len_, h.max, h.row.below hb, fun i hi => (h.kids i hi).keep hb⟩
def keysOf : List Nd → List ByteArray
  | k :: _ :: r => k.str :: keysOf r
  | _ => []
def valsOf : List Nd → List Nd
  | _ :: v :: r => v :: valsOf r
  | _ => []
theorem results_c {P : Program} {w : World} {fn : Func} {tmps : Array Value} {v1 : Value} {a1 t1 b1 : Nat} (h : fn.results = #[.cell a1 t1]) (h1 : tmps.getD a1 undef = .pointer (some ⟨b1, 0, none⟩)) (l1 : (loadVar t1 ⟨b1, 0, none⟩).run P w = .ok v1 w) : (results fn tmps).run P w = .ok v1 w := by
  have g1 : tmps[a1]?.getD undef = .pointer (some ⟨b1, 0, none⟩) := by simpa using h1
  simp [results, h, g1, asAddr, l1]
theorem bd_NdT (s : ByteArray) (W : World) : (Instr.build 25 #[(0, .int .i64 4), (2, .string s)]).run Try.prog W = .ok (.agg #[.int .i64 4, .int .i64 0, .string s, .slice none 0 0, .slice none 0 0]) W := by kernel_rfl
theorem bd_NdI (z : Int) (W : World) : (Instr.build 25 #[(0, .int .i64 3), (1, .int .i64 z)]).run Try.prog W = .ok (.agg #[.int .i64 3, .int .i64 z, .string ByteArray.empty, .slice none 0 0, .slice none 0 0]) W := by kernel_rfl
theorem bd_NdM (W : World) : (Instr.build 25 #[(0, .int .i64 6)]).run Try.prog W = .ok (.agg #[.int .i64 6, .int .i64 0, .string ByteArray.empty, .slice none 0 0, .slice none 0 0]) W := by kernel_rfl
set_option maxRecDepth 100000 in
theorem text_any (w : World) (s : ByteArray) : Calls Try.prog 36 #[.string s] w fun e w' => e = .returned (.agg #[.int .i64 4, .int .i64 0, .string s, .slice none 0 0, .slice none 0 0]) ∧ Below w.heap.size w w' := by
  have hM0 := Mem.start w
  go_enter Try.func36, Try.ntmps36
  go_upto_region 0 with fail
  refine wp_region_lit ?_
  refine wl_new hM0 (f := fun b => .pointer (some ⟨b, 0, none⟩)) (fun W => run_alloc_of rfl (al_Nd W)) rfl fun b W1 hM1 => ?_
  simp only [nm0, nm1, nm2, nm3]
  refine wpList_nil ?_
  go_upto_region 1 with fail
  refine wp_region_lit ?_
  refine wl_pure (v := .string s) (fun W => rfl) rfl ?_
  simp only [nm0, nm1, nm2, nm3]
  refine wl_pure (v := .agg #[.int .i64 4, .int .i64 0, .string s, .slice none 0 0, .slice none 0 0]) (fun W => run_build_of (ps := #[(0, .int .i64 4), (2, .string s)]) rfl (by simp [Act.eval]) (bd_NdT s W)) rfl ?_
  simp only [nm0, nm1, nm2, nm3]
  refine wl_set hM1 0 (cs := #[.int .i64 4, .int .i64 0, .string s, .slice none 0 0, .slice none 0 0]) rfl rfl rfl rfl rowNd rfl (by simp [Value.oneCell']) rfl rfl fun W2 hM2 => ?_
  simp only [nm2, nm3] at hM2
  refine wpList_nil ?_
  go_wp2_with fail
  exact bodyPost_ret (results_c rfl rfl (hM2.load 0 rfl rowNd)) rfl ⟨rfl, hM2.below⟩
set_option maxRecDepth 100000 in
theorem int_any (w : World) (z : Int) : Calls Try.prog 37 #[.int .i64 z] w fun e w' => e = .returned (.agg #[.int .i64 3, .int .i64 z, .string ByteArray.empty, .slice none 0 0, .slice none 0 0]) ∧ Below w.heap.size w w' := by
  have hM0 := Mem.start w
  go_enter Try.func37, Try.ntmps37
  go_upto_region 0 with fail
  refine wp_region_lit ?_
  refine wl_new hM0 (f := fun b => .pointer (some ⟨b, 0, none⟩)) (fun W => run_alloc_of rfl (al_Nd W)) rfl fun b W1 hM1 => ?_
  simp only [nm0, nm1, nm2, nm3]
  refine wpList_nil ?_
  go_upto_region 1 with fail
  refine wp_region_lit ?_
  refine wl_pure (v := .int .i64 z) (fun W => rfl) rfl ?_
  simp only [nm0, nm1, nm2, nm3]
  refine wl_pure (v := .agg #[.int .i64 3, .int .i64 z, .string ByteArray.empty, .slice none 0 0, .slice none 0 0]) (fun W => run_build_of (ps := #[(0, .int .i64 3), (1, .int .i64 z)]) rfl (by simp [Act.eval]) (bd_NdI z W)) rfl ?_
  simp only [nm0, nm1, nm2, nm3]
  refine wl_set hM1 0 (cs := #[.int .i64 3, .int .i64 z, .string ByteArray.empty, .slice none 0 0, .slice none 0 0]) rfl rfl rfl rfl rowNd rfl (by simp [Value.oneCell']) rfl rfl fun W2 hM2 => ?_
  simp only [nm2, nm3] at hM2
  refine wpList_nil ?_
  go_wp2_with fail
  exact bodyPost_ret (results_c rfl rfl (hM2.load 0 rfl rowNd)) rfl ⟨rfl, hM2.below⟩
end Go.Proofs.Ytbheiglbejokmaa
