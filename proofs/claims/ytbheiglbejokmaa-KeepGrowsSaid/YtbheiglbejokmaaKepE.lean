/- keep.Inner (layer 32). -/
import Derived.Test.YtbheiglbejokmaaKepD
namespace Go.Proofs.Ytbheiglbejokmaa
set_option maxRecDepth 20000
set_option linter.unusedSimpArgs false
set_option linter.unusedVariables false
open Go.RowKit Go.Sort Go.Lib Go.MapKept
attribute [local go_sem] Oper.semAt_some
def kk_signed : ByteArray := ⟨#[115, 105, 103, 110, 101, 100]⟩
theorem tl_mem : kk_mem.toList = [109, 46, 114, 111, 111, 109, 46, 109, 101, 109, 98, 101, 114] := by kernel_rfl
theorem is_mem (s : ByteArray) : (s.toList == [109, 46, 114, 111, 111, 109, 46, 109, 101, 109, 98, 101, 114]) = decide (s = kk_mem) := by
  rw [← tl_mem]
  by_cases c : s = kk_mem
  · rw [c]; simp
  · rw [text_ne c]; simp [c]
theorem tl_cre : kk_cre.toList = [109, 46, 114, 111, 111, 109, 46, 99, 114, 101, 97, 116, 101] := by kernel_rfl
theorem is_cre (s : ByteArray) : (s.toList == [109, 46, 114, 111, 111, 109, 46, 99, 114, 101, 97, 116, 101]) = decide (s = kk_cre) := by
  rw [← tl_cre]
  by_cases c : s = kk_cre
  · rw [c]; simp
  · rw [text_ne c]; simp [c]
theorem tl_inv3 : kk_inv3.toList = [116, 104, 105, 114, 100, 95, 112, 97, 114, 116, 121, 95, 105, 110, 118, 105, 116, 101] := by kernel_rfl
theorem is_inv3 (s : ByteArray) : (s.toList == [116, 104, 105, 114, 100, 95, 112, 97, 114, 116, 121, 95, 105, 110, 118, 105, 116, 101]) = decide (s = kk_inv3) := by
  rw [← tl_inv3]
  by_cases c : s = kk_inv3
  · rw [c]; simp
  · rw [text_ne c]; simp [c]
theorem tl_signed : kk_signed.toList = [115, 105, 103, 110, 101, 100] := by kernel_rfl
theorem is_signed (s : ByteArray) : (s.toList == [115, 105, 103, 110, 101, 100]) = decide (s = kk_signed) := by
  rw [← tl_signed]
  by_cases c : s = kk_signed
  · rw [c]; simp
  · rw [text_ne c]; simp [c]
theorem alloc_at (w : World) (a : Obj) (n : Nat) (h : n = w.heap.size) : (w.alloc a).heap[n]? = some a := by
  subst h
  show (w.heap.push a)[w.heap.size]? = some a
  exact Array.getElem?_push_size
def innerB (v : Int) (kind key : ByteArray) : Bool := gF v && (decide (kind = kk_mem) && decide (key = kk_inv3))
def innerL (t : Bool) : List ByteArray := if t then [kk_signed] else []
theorem inner_any (w : World) (v : Int) (kind key : ByteArray) :
    Calls Try.prog 24 #[.int .i64 v, .string kind, .string key] w fun e w' => ∃ x, e = .returned (.tuple #[x, .bool (innerB v kind key)]) ∧ TxAt w' x (innerL (innerB v kind key)) ∧ Below w.heap.size w w' := by
  rcases hF : gF v with _ | _
  · have hB : innerB v kind key = false := by simp [innerB, hF]
    rw [hB]
    have HF := Lib.hid hF
    go_enter Try.func24, Try.ntmps24
    go_wp2_with (go_at_call 49; refine (vof_any _ _).mono ?_; rintro e w' ⟨rfl, rfl⟩; rw [HF.out])
    exact bodyPost_ret (results_tt rfl rfl rfl) rfl ⟨_, rfl, .inl ⟨rfl, rfl⟩, gr_alloc (gr_alloc (Below.refl _ _) _) _⟩
  · have HF := Lib.hid hF
    have h1 := is_mem kind
    have h2 := is_inv3 key
    have hB : innerB v kind key = (decide (kind = kk_mem) && decide (key = kk_inv3)) := by simp [innerB, hF]
    rw [hB]
    generalize decide (kind = kk_mem) = p at h1 ⊢
    generalize decide (key = kk_inv3) = q at h2 ⊢
    clear hB hF
    cases p <;> cases q <;>
    · go_enter Try.func24, Try.ntmps24
      go_wp2_with (go_at_call 49; refine (vof_any _ _).mono ?_; rintro e w' ⟨rfl, rfl⟩; rw [HF.out])
      first
        | exact bodyPost_ret (results_tt rfl rfl rfl) rfl ⟨_, rfl, .inl ⟨rfl, rfl⟩, gr_alloc (gr_alloc (Below.refl _ _) _) _⟩
        | (refine bodyPost_ret (results_tt rfl rfl rfl) rfl ⟨_, rfl, .inr ⟨_, 1, #[.string kk_signed], rfl, Nat.le_refl _, by decide, ?_, rfl, rfl⟩, gr_alloc (gr_alloc (gr_alloc (Below.refl _ _) _) _) _⟩
           exact alloc_at _ _ _ (by simp))
end Go.Proofs.Ytbheiglbejokmaa
