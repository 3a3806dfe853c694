/-
  No cell of these rows narrows 'for every input' (looked for: loops, veiled, ifaces, maps, wideKeys, modest, calm, conditions, laid).
  DERIVED. THE GIVEN ROWS OF THIS SEAT. 3 by the template 'for every input the law returns true; each argument reads behind the call as it read before'; 0 by the template 'total and deterministic' (their statements: YtnaldciakclccaaGreatTotals.lean).
  GIVEN WITH THE SEED: the statements are not yours to turn. If you find one false, say at which input.
  Laid BY PROGRAM, IN A SANDBOX (cutbox-rows.mjs): the forced cells as the released guide's own fill.sh prints them over the translation ce47bd8066a80ffa… (all of the seat's roots in one cut). By AI agents, Wed Nov 11 2026. No macro, syntax, notation, axiom, sorry.
-/
import Derived.Test.YtnaldciakclccaaGreatChecked
import GoSem.Claim
import GoSem.ClaimJoined
import GoSem.ClaimMapViews
import Derived.JoinedTies
import Derived.KernelRfl
namespace Go.Proofs.YtnaldciakclccaaGreat
/- THE CELL 'sum', in the pinned program and in every row, IS THE sha256 OF THE DUMP (.gsa) THAT YtnaldciakclccaaGreatProg.lean LOADS. Nothing in Lean hashes anything: it is a label: what it is worth is what the hold of that sum in a sandbox is worth. -/
noncomputable def Tryz.pinned : Pinned := { name := "ytnaldciakclccaagreat", sum := "ce47bd8066a80ffa3772c1d4cd99ffcdb638b2b63086edde0115b667fa0f3186", checked := Tryz.checked }
namespace Rows
def none {H : Type} : Left H := { results := [], args := [] }

/-- 'sealringlaw24.EdkeyMakes': WHATEVER THE INPUT: true; the input reads as it did. -/
def edkeyMakesSpec : ChangeSpec := { name := "edkeyMakes", fn := fun _ => fun
  | [d] => { results := [.lit (.bool true)], args := [d] }
  | _ => none }
def edkeyMakesRow : OpenClaim := { program := "ytnaldciakclccaagreat", sum := "ce47bd8066a80ffa3772c1d4cd99ffcdb638b2b63086edde0115b667fa0f3186", func := "sealring/sealringlaw24.EdkeyMakes", spec := "edkeyMakes", inPlace := ["math/bits.Add64", "math/bits.Sub64", "internal/bytealg.IndexByteString"], unfollowed := true, recurses := true, apart := false }
def EdkeyMakesSaid : Prop := edkeyMakesRow.holds Tryz.pinned (OpenSpec.ofChange edkeyMakesSpec)

/-- ITS FALSE NEIGHBOUR: 'it returns false'. Refute it at one input. -/
def edkeyMakesWrong : ChangeSpec := { name := "edkeyMakes", fn := fun _ => fun
  | [d] => { results := [.lit (.bool false)], args := [d] }
  | _ => none }
def EdkeyMakesWrongFalsely : Prop := edkeyMakesRow.holds Tryz.pinned (OpenSpec.ofChange edkeyMakesWrong)

/-- 'sealringlaw25.EdsignSigns': WHATEVER THE INPUT: true; the input reads as it did. -/
def edsignSignsSpec : ChangeSpec := { name := "edsignSigns", fn := fun _ => fun
  | [d1, d2, d3] => { results := [.lit (.bool true)], args := [d1, d2, d3] }
  | _ => none }
def edsignSignsRow : OpenClaim := { program := "ytnaldciakclccaagreat", sum := "ce47bd8066a80ffa3772c1d4cd99ffcdb638b2b63086edde0115b667fa0f3186", func := "sealring/sealringlaw25.EdsignSigns", spec := "edsignSigns", inPlace := ["internal/bytealg.IndexByteString", "math/bits.Add64", "math/bits.Sub64", "internal/abi.NoEscape", "internal/bytealg.MakeNoZero"], unfollowed := true, recurses := true, apart := false }
def EdsignSignsSaid : Prop := edsignSignsRow.holds Tryz.pinned (OpenSpec.ofChange edsignSignsSpec)

/-- ITS FALSE NEIGHBOUR: 'it returns false'. Refute it at one input. -/
def edsignSignsWrong : ChangeSpec := { name := "edsignSigns", fn := fun _ => fun
  | [d1, d2, d3] => { results := [.lit (.bool false)], args := [d1, d2, d3] }
  | _ => none }
def EdsignSignsWrongFalsely : Prop := edsignSignsRow.holds Tryz.pinned (OpenSpec.ofChange edsignSignsWrong)

/-- 'sealringlaw25.EdsignVerifies': WHATEVER THE INPUT: true; the input reads as it did. -/
def edsignVerifiesSpec : ChangeSpec := { name := "edsignVerifies", fn := fun _ => fun
  | [d1, d2, d3] => { results := [.lit (.bool true)], args := [d1, d2, d3] }
  | _ => none }
def edsignVerifiesRow : OpenClaim := { program := "ytnaldciakclccaagreat", sum := "ce47bd8066a80ffa3772c1d4cd99ffcdb638b2b63086edde0115b667fa0f3186", func := "sealring/sealringlaw25.EdsignVerifies", spec := "edsignVerifies", inPlace := ["internal/bytealg.IndexByteString", "math/bits.Add64", "math/bits.Sub64", "internal/abi.NoEscape", "internal/bytealg.MakeNoZero"], unfollowed := true, recurses := true, apart := false }
def EdsignVerifiesSaid : Prop := edsignVerifiesRow.holds Tryz.pinned (OpenSpec.ofChange edsignVerifiesSpec)

/-- ITS FALSE NEIGHBOUR: 'it returns false'. Refute it at one input. -/
def edsignVerifiesWrong : ChangeSpec := { name := "edsignVerifies", fn := fun _ => fun
  | [d1, d2, d3] => { results := [.lit (.bool false)], args := [d1, d2, d3] }
  | _ => none }
def EdsignVerifiesWrongFalsely : Prop := edsignVerifiesRow.holds Tryz.pinned (OpenSpec.ofChange edsignVerifiesWrong)

/- THE SECOND FORM. 'bulk': how many values and letters a reading holds, each counted each time it is reached (what is shared counts as often as it is met; a slice's spare places count too). A statement '..UptoSaid' is the law's where the arguments, and the package variables that the reading takes, are together of bulk at most 1048576: NARROWER than '..Said'. Prove '..Said' where nothing that the law and all that it calls make is longer than what came in: it says more and counts as full. Else prove '..UptoSaid'. A law counts once. -/
mutual
def uptoBulk {H : Type} : DataW H → Nat
  | .lit (.string bytes) => bytes.length + 1
  | .lit _ => 1
  | .nil => 1
  | .ptr d => uptoBulk d + 1
  | .slice elems spare => uptoBulkAll elems + uptoBulkAll spare + 1
  | .agg parts => uptoBulkAll parts + 1
  | .iface _ d => uptoBulk d + 1
  | .map entries => uptoBulkEntries entries + 1
  | .held _ => 1
def uptoBulkAll {H : Type} : List (DataW H) → Nat
  | [] => 0
  | d :: r => uptoBulk d + uptoBulkAll r
def uptoBulkEntries {H : Type} : List (Lit × DataW H) → Nat
  | [] => 0
  | x :: r => uptoBulkEntry x + uptoBulkEntries r
def uptoBulkEntry {H : Type} : Lit × DataW H → Nat
  | (.string bytes, d) => bytes.length + uptoBulk d + 1
  | (_, d) => uptoBulk d + 1
 end
def uptoSmall : (H : Type) → List (DataW H) → Bool := fun _ ds => decide (uptoBulkAll ds ≤ 1048576)
def OpenSpec.upto (s : _root_.Go.ChangeSpec) : _root_.Go.OpenSpec := { _root_.Go.OpenSpec.ofChange s with cond := some uptoSmall }

/-- 'sealringlaw24.EdkeyMakes', WHERE WHAT IT READS IS OF BULK AT MOST 1048576: true; the input reads as it did. -/
def edkeyMakesUptoRow : OpenClaim := { program := "ytnaldciakclccaagreat", sum := "ce47bd8066a80ffa3772c1d4cd99ffcdb638b2b63086edde0115b667fa0f3186", func := "sealring/sealringlaw24.EdkeyMakes", spec := "edkeyMakes", inPlace := ["math/bits.Add64", "math/bits.Sub64", "internal/bytealg.IndexByteString"], unfollowed := true, recurses := true, apart := false, narrowed := true }
def EdkeyMakesUptoSaid : Prop := edkeyMakesUptoRow.holds Tryz.pinned (OpenSpec.upto edkeyMakesSpec)

/-- 'sealringlaw25.EdsignSigns', WHERE WHAT IT READS IS OF BULK AT MOST 1048576: true; the input reads as it did. -/
def edsignSignsUptoRow : OpenClaim := { program := "ytnaldciakclccaagreat", sum := "ce47bd8066a80ffa3772c1d4cd99ffcdb638b2b63086edde0115b667fa0f3186", func := "sealring/sealringlaw25.EdsignSigns", spec := "edsignSigns", inPlace := ["internal/bytealg.IndexByteString", "math/bits.Add64", "math/bits.Sub64", "internal/abi.NoEscape", "internal/bytealg.MakeNoZero"], unfollowed := true, recurses := true, apart := false, narrowed := true }
def EdsignSignsUptoSaid : Prop := edsignSignsUptoRow.holds Tryz.pinned (OpenSpec.upto edsignSignsSpec)

/-- 'sealringlaw25.EdsignVerifies', WHERE WHAT IT READS IS OF BULK AT MOST 1048576: true; the input reads as it did. -/
def edsignVerifiesUptoRow : OpenClaim := { program := "ytnaldciakclccaagreat", sum := "ce47bd8066a80ffa3772c1d4cd99ffcdb638b2b63086edde0115b667fa0f3186", func := "sealring/sealringlaw25.EdsignVerifies", spec := "edsignVerifies", inPlace := ["internal/bytealg.IndexByteString", "math/bits.Add64", "math/bits.Sub64", "internal/abi.NoEscape", "internal/bytealg.MakeNoZero"], unfollowed := true, recurses := true, apart := false, narrowed := true }
def EdsignVerifiesUptoSaid : Prop := edsignVerifiesUptoRow.holds Tryz.pinned (OpenSpec.upto edsignVerifiesSpec)

end Rows
end Go.Proofs.YtnaldciakclccaaGreat
