/- The law of rests, layer 13: it returns true. -/
import Derived.Test.YtlclhialkpppeaaWidX
namespace Go.Proofs.Ytlclhialkpppeaa
open Go.RowKit
theorem wideRests_walk (a b m : Nat) (w : World) (ha : a < B64 ^ 4) (hb : b < B64 ^ 4) (hm : m < B64 ^ 4) :
    Calls Try.prog 3 #[numV a, numV b, numV m] w fun e w' => e = .returned (.bool true) ∧ Below w.heap.size w w' := wideRests_w a b m w ha hb hm
end Go.Proofs.Ytlclhialkpppeaa
