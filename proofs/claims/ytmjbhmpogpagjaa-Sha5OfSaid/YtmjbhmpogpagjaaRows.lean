/-
  No cell of these rows narrows 'for every input' (looked for: loops, veiled, ifaces, maps, wideKeys, modest, calm, conditions, laid).
  DERIVED. THE GIVEN ROWS OF THIS SEAT. 2 by the template 'for every input the law returns true; each argument reads behind the call as it read before'; 0 by the template 'total and deterministic' (their statements: YtmjbhmpogpagjaaTotals.lean).
  GIVEN WITH THE SEED: the statements are not yours to turn. If you find one false, say at which input.
  Laid BY PROGRAM, IN A SANDBOX (cutbox-rows.mjs): the forced cells as the released guide's own fill.sh prints them over the translation c6e8428c299ee230… (all of the seat's roots in one cut). By AI agents, Wed Nov 11 2026. No macro, syntax, notation, axiom, sorry.
-/
import Derived.Test.YtmjbhmpogpagjaaChecked
import GoSem.Claim
import GoSem.ClaimJoined
import GoSem.ClaimMapViews
import Derived.JoinedTies
import Derived.KernelRfl
namespace Go.Proofs.Ytmjbhmpogpagjaa
/- THE CELL 'sum', in the pinned program and in every row, IS THE sha256 OF THE DUMP (.gsa) THAT YtmjbhmpogpagjaaProg.lean LOADS. Nothing in Lean hashes anything: it is a label: what it is worth is what the hold of that sum in a sandbox is worth. -/
noncomputable def Try.pinned : Pinned := { name := "ytmjbhmpogpagjaa", sum := "c6e8428c299ee23061d3810d3c0ac760bbf21b84a2f9c6ac52b726f5d097e16d", checked := Try.checked }
namespace Rows
def none {H : Type} : Left H := { results := [], args := [] }

/-- 'sealringlaw18.Sha5Of': WHATEVER THE INPUT: true; the input reads as it did. -/
def sha5OfSpec : ChangeSpec := { name := "sha5Of", fn := fun _ => fun
  | [d] => { results := [.lit (.bool true)], args := [d] }
  | _ => none }
def sha5OfRow : OpenClaim := { program := "ytmjbhmpogpagjaa", sum := "c6e8428c299ee23061d3810d3c0ac760bbf21b84a2f9c6ac52b726f5d097e16d", func := "sealring/sealringlaw18.Sha5Of", spec := "sha5Of", inPlace := ["math/bits.Add64"], unfollowed := true, recurses := true, apart := false }
def Sha5OfSaid : Prop := sha5OfRow.holds Try.pinned (OpenSpec.ofChange sha5OfSpec)

/-- ITS FALSE NEIGHBOUR: 'it returns false'. Refute it at one input. -/
def sha5OfWrong : ChangeSpec := { name := "sha5Of", fn := fun _ => fun
  | [d] => { results := [.lit (.bool false)], args := [d] }
  | _ => none }
def Sha5OfWrongFalsely : Prop := sha5OfRow.holds Try.pinned (OpenSpec.ofChange sha5OfWrong)

/-- 'sealringlaw18.Sha5Goes': WHATEVER THE INPUT: true; the input reads as it did. -/
def sha5GoesSpec : ChangeSpec := { name := "sha5Goes", fn := fun _ => fun
  | [d] => { results := [.lit (.bool true)], args := [d] }
  | _ => none }
def sha5GoesRow : OpenClaim := { program := "ytmjbhmpogpagjaa", sum := "c6e8428c299ee23061d3810d3c0ac760bbf21b84a2f9c6ac52b726f5d097e16d", func := "sealring/sealringlaw18.Sha5Goes", spec := "sha5Goes", inPlace := ["math/bits.Add64"], unfollowed := true, recurses := true, apart := false }
def Sha5GoesSaid : Prop := sha5GoesRow.holds Try.pinned (OpenSpec.ofChange sha5GoesSpec)

/-- ITS FALSE NEIGHBOUR: 'it returns false'. Refute it at one input. -/
def sha5GoesWrong : ChangeSpec := { name := "sha5Goes", fn := fun _ => fun
  | [d] => { results := [.lit (.bool false)], args := [d] }
  | _ => none }
def Sha5GoesWrongFalsely : Prop := sha5GoesRow.holds Try.pinned (OpenSpec.ofChange sha5GoesWrong)

/- THE SECOND FORM. 'bulk': how many values and letters a reading holds, each counted each time it is reached (what is shared counts as often as it is met; a slice's spare places count too). A statement '..UptoSaid' is the law's where the arguments, and the package variables that the reading takes, are together of bulk at most 1048576: NARROWER than '..Said'. Prove '..Said' where nothing that the law and all that it calls make is longer than what came in: it says more and counts as full. Else prove '..UptoSaid'. A law counts once. -/
mutual
def uptoBulk {H : Type} : DataW H → Nat
  | .lit (.string bytes) => bytes.length + 1
  | .lit _ => 1
  | .nil => 1
  | .ptr d => uptoBulk d + 1
  | .slice elems spare => uptoBulkAll elems + uptoBulkAll spare + 1
  | .agg parts => uptoBulkAll parts + 1
  | .iface _ d => uptoBulk d + 1
  | .map entries => uptoBulkEntries entries + 1
  | .held _ => 1
def uptoBulkAll {H : Type} : List (DataW H) → Nat
  | [] => 0
  | d :: r => uptoBulk d + uptoBulkAll r
def uptoBulkEntries {H : Type} : List (Lit × DataW H) → Nat
  | [] => 0
  | x :: r => uptoBulkEntry x + uptoBulkEntries r
def uptoBulkEntry {H : Type} : Lit × DataW H → Nat
  | (.string bytes, d) => bytes.length + uptoBulk d + 1
  | (_, d) => uptoBulk d + 1
 end
def uptoSmall : (H : Type) → List (DataW H) → Bool := fun _ ds => decide (uptoBulkAll ds ≤ 1048576)
def OpenSpec.upto (s : _root_.Go.ChangeSpec) : _root_.Go.OpenSpec := { _root_.Go.OpenSpec.ofChange s with cond := some uptoSmall }

/-- 'sealringlaw18.Sha5Of', WHERE WHAT IT READS IS OF BULK AT MOST 1048576: true; the input reads as it did. -/
def sha5OfUptoRow : OpenClaim := { program := "ytmjbhmpogpagjaa", sum := "c6e8428c299ee23061d3810d3c0ac760bbf21b84a2f9c6ac52b726f5d097e16d", func := "sealring/sealringlaw18.Sha5Of", spec := "sha5Of", inPlace := ["math/bits.Add64"], unfollowed := true, recurses := true, apart := false, narrowed := true }
def Sha5OfUptoSaid : Prop := sha5OfUptoRow.holds Try.pinned (OpenSpec.upto sha5OfSpec)

/-- 'sealringlaw18.Sha5Goes', WHERE WHAT IT READS IS OF BULK AT MOST 1048576: true; the input reads as it did. -/
def sha5GoesUptoRow : OpenClaim := { program := "ytmjbhmpogpagjaa", sum := "c6e8428c299ee23061d3810d3c0ac760bbf21b84a2f9c6ac52b726f5d097e16d", func := "sealring/sealringlaw18.Sha5Goes", spec := "sha5Goes", inPlace := ["math/bits.Add64"], unfollowed := true, recurses := true, apart := false, narrowed := true }
def Sha5GoesUptoSaid : Prop := sha5GoesUptoRow.holds Try.pinned (OpenSpec.upto sha5GoesSpec)

end Rows
end Go.Proofs.Ytmjbhmpogpagjaa
