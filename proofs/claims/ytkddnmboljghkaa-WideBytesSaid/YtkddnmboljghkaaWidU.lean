/- The law of bytes and bits, layer 13: it returns true. -/
import Derived.Test.YtkddnmboljghkaaWidS
namespace Go.Proofs.Ytkddnmboljghkaa
open Go.RowKit
theorem wideBytes_walk (a : Nat) (s : ByteArray) (i : Int) (w : World) (ha : a < B64 ^ 4) (_hs : s.size ≤ maxLen) (_hi : (Lit.int .i64 i).wf = true) :
    Calls Try.prog 3 #[numV a, .string s, .int .i64 i] w fun e w' => e = .returned (.bool true) ∧ Below w.heap.size w w' := by
  by_cases h : s.size = 32
  · exact wideBytes_long a s i w ha h
  · exact wideBytes_short a s i w h
end Go.Proofs.Ytkddnmboljghkaa
