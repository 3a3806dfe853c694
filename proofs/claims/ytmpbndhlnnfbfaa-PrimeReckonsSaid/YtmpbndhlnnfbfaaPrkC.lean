/- PrimeReckons for its frame. -/
import Derived.Test.YtmpbndhlnnfbfaaPrkB
namespace Go.Proofs.Ytmpbndhlnnfbfaa
open Go.RowKit
theorem primeReckons_walk (a : Option Addr) (len cap : Nat) (ns : List Nat) (w : World) (h : IsNumRow w a len ns) :
    Calls Try.prog 4 #[.slice a len cap] w fun e w' => e = .returned (.bool true) ∧ Below w.heap.size w w' := primeReckons_w a len cap ns w h
end Go.Proofs.Ytmpbndhlnnfbfaa
