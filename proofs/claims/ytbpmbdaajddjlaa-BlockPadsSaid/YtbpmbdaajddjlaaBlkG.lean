/- The law BlockPads, layer 16: it returns true. -/
import Derived.Test.YtbpmbdaajddjlaaBlkS
namespace Go.Proofs.Ytbpmbdaajddjlaa
open Go.RowKit
theorem blockPads_walk (n size width : Int) (w : World) (h1 : (Lit.int .i64 n).wf = true) (h2 : (Lit.int .i64 size).wf = true) (h3 : (Lit.int .i64 width).wf = true) :
    Calls Try.prog 4 #[.int .i64 n, .int .i64 size, .int .i64 width] w fun e w' => e = .returned (.bool true) ∧ Below w.heap.size w w' := blockPads_of lives16 n size width w h1 h2 h3
end Go.Proofs.Ytbpmbdaajddjlaa
