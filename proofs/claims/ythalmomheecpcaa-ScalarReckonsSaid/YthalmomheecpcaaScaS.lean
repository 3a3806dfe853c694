/- ScalarReckons for its frame. -/
import Derived.Test.YthalmomheecpcaaScaJ
namespace Go.Proofs.Ythalmomheecpcaa
open Go.RowKit
theorem scalarReckons_walk (a : Option Addr) (len cap : Nat) (ns : List Nat) (w : World) (h : IsNumRow w a len ns) :
    Calls Try.prog 4 #[.slice a len cap] w fun e w' => e = .returned (.bool true) ∧ Below w.heap.size w w' := scalarReckons_w a len cap ns w h
end Go.Proofs.Ythalmomheecpcaa
