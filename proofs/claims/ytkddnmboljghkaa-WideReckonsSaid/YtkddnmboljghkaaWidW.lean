/- The law of sums, differences, products, layer 13: it returns true. -/
import Derived.Test.YtkddnmboljghkaaWidV
namespace Go.Proofs.Ytkddnmboljghkaa
open Go.RowKit
theorem wideReckons_walk (a b : Nat) (w : World) (ha : a < B64 ^ 4) (hb : b < B64 ^ 4) :
    Calls Try.prog 4 #[numV a, numV b] w fun e w' => e = .returned (.bool true) ∧ Below w.heap.size w w' := wideReckons_w a b w ha hb
end Go.Proofs.Ytkddnmboljghkaa
