/-
  No cell of these rows narrows 'for every input' (looked for: loops, veiled, ifaces, maps, wideKeys, modest, calm, conditions, laid).
  DERIVED. THE GIVEN ROWS OF THIS SEAT. 2 by the template 'for every input the law returns true; each argument reads behind the call as it read before'; 0 by the template 'total and deterministic' (their statements: YtcokmlbpomopkaaTotals.lean).
  GIVEN WITH THE SEED: the statements are not yours to turn. If you find one false, say at which input.
  Laid BY PROGRAM, IN A SANDBOX (cutbox-rows.mjs): the forced cells as the released guide's own fill.sh prints them over the translation cc975d7b0f420813… (all of the seat's roots in one cut). By AI agents, Wed Nov 11 2026. No macro, syntax, notation, axiom, sorry.
-/
import Derived.Test.YtcokmlbpomopkaaChecked
import GoSem.Claim
import GoSem.ClaimJoined
import GoSem.ClaimMapViews
import Derived.JoinedTies
import Derived.KernelRfl
namespace Go.Proofs.Ytcokmlbpomopkaa
/- THE CELL 'sum', in the pinned program and in every row, IS THE sha256 OF THE DUMP (.gsa) THAT YtcokmlbpomopkaaProg.lean LOADS. Nothing in Lean hashes anything: it is a label: what it is worth is what the hold of that sum in a sandbox is worth. -/
noncomputable def Try.pinned : Pinned := { name := "ytcokmlbpomopkaa", sum := "cc975d7b0f420813f2b99e664bf576db9fdc5108d3a4d959e1e0f35e8214644a", checked := Try.checked }
namespace Rows
def none {H : Type} : Left H := { results := [], args := [] }

/-- 'sealringlaw17.Sha2Of': WHATEVER THE INPUT: true; the input reads as it did. -/
def sha2OfSpec : ChangeSpec := { name := "sha2Of", fn := fun _ => fun
  | [d] => { results := [.lit (.bool true)], args := [d] }
  | _ => none }
def sha2OfRow : OpenClaim := { program := "ytcokmlbpomopkaa", sum := "cc975d7b0f420813f2b99e664bf576db9fdc5108d3a4d959e1e0f35e8214644a", func := "sealring/sealringlaw17.Sha2Of", spec := "sha2Of", inPlace := ["math/bits.Add64"], unfollowed := true, recurses := true, apart := false }
def Sha2OfSaid : Prop := sha2OfRow.holds Try.pinned (OpenSpec.ofChange sha2OfSpec)

/-- ITS FALSE NEIGHBOUR: 'it returns false'. Refute it at one input. -/
def sha2OfWrong : ChangeSpec := { name := "sha2Of", fn := fun _ => fun
  | [d] => { results := [.lit (.bool false)], args := [d] }
  | _ => none }
def Sha2OfWrongFalsely : Prop := sha2OfRow.holds Try.pinned (OpenSpec.ofChange sha2OfWrong)

/-- 'sealringlaw17.Sha2Goes': WHATEVER THE INPUT: true; the input reads as it did. -/
def sha2GoesSpec : ChangeSpec := { name := "sha2Goes", fn := fun _ => fun
  | [d] => { results := [.lit (.bool true)], args := [d] }
  | _ => none }
def sha2GoesRow : OpenClaim := { program := "ytcokmlbpomopkaa", sum := "cc975d7b0f420813f2b99e664bf576db9fdc5108d3a4d959e1e0f35e8214644a", func := "sealring/sealringlaw17.Sha2Goes", spec := "sha2Goes", inPlace := ["math/bits.Add64"], unfollowed := true, recurses := true, apart := false }
def Sha2GoesSaid : Prop := sha2GoesRow.holds Try.pinned (OpenSpec.ofChange sha2GoesSpec)

/-- ITS FALSE NEIGHBOUR: 'it returns false'. Refute it at one input. -/
def sha2GoesWrong : ChangeSpec := { name := "sha2Goes", fn := fun _ => fun
  | [d] => { results := [.lit (.bool false)], args := [d] }
  | _ => none }
def Sha2GoesWrongFalsely : Prop := sha2GoesRow.holds Try.pinned (OpenSpec.ofChange sha2GoesWrong)

/- THE SECOND FORM. 'bulk': how many values and letters a reading holds, each counted each time it is reached (what is shared counts as often as it is met; a slice's spare places count too). A statement '..UptoSaid' is the law's where the arguments, and the package variables that the reading takes, are together of bulk at most 1048576: NARROWER than '..Said'. Prove '..Said' where nothing that the law and all that it calls make is longer than what came in: it says more and counts as full. Else prove '..UptoSaid'. A law counts once. -/
mutual
def uptoBulk {H : Type} : DataW H → Nat
  | .lit (.string bytes) => bytes.length + 1
  | .lit _ => 1
  | .nil => 1
  | .ptr d => uptoBulk d + 1
  | .slice elems spare => uptoBulkAll elems + uptoBulkAll spare + 1
  | .agg parts => uptoBulkAll parts + 1
  | .iface _ d => uptoBulk d + 1
  | .map entries => uptoBulkEntries entries + 1
  | .held _ => 1
def uptoBulkAll {H : Type} : List (DataW H) → Nat
  | [] => 0
  | d :: r => uptoBulk d + uptoBulkAll r
def uptoBulkEntries {H : Type} : List (Lit × DataW H) → Nat
  | [] => 0
  | x :: r => uptoBulkEntry x + uptoBulkEntries r
def uptoBulkEntry {H : Type} : Lit × DataW H → Nat
  | (.string bytes, d) => bytes.length + uptoBulk d + 1
  | (_, d) => uptoBulk d + 1
 end
def uptoSmall : (H : Type) → List (DataW H) → Bool := fun _ ds => decide (uptoBulkAll ds ≤ 1048576)
def OpenSpec.upto (s : _root_.Go.ChangeSpec) : _root_.Go.OpenSpec := { _root_.Go.OpenSpec.ofChange s with cond := some uptoSmall }

/-- 'sealringlaw17.Sha2Of', WHERE WHAT IT READS IS OF BULK AT MOST 1048576: true; the input reads as it did. -/
def sha2OfUptoRow : OpenClaim := { program := "ytcokmlbpomopkaa", sum := "cc975d7b0f420813f2b99e664bf576db9fdc5108d3a4d959e1e0f35e8214644a", func := "sealring/sealringlaw17.Sha2Of", spec := "sha2Of", inPlace := ["math/bits.Add64"], unfollowed := true, recurses := true, apart := false, narrowed := true }
def Sha2OfUptoSaid : Prop := sha2OfUptoRow.holds Try.pinned (OpenSpec.upto sha2OfSpec)

/-- 'sealringlaw17.Sha2Goes', WHERE WHAT IT READS IS OF BULK AT MOST 1048576: true; the input reads as it did. -/
def sha2GoesUptoRow : OpenClaim := { program := "ytcokmlbpomopkaa", sum := "cc975d7b0f420813f2b99e664bf576db9fdc5108d3a4d959e1e0f35e8214644a", func := "sealring/sealringlaw17.Sha2Goes", spec := "sha2Goes", inPlace := ["math/bits.Add64"], unfollowed := true, recurses := true, apart := false, narrowed := true }
def Sha2GoesUptoSaid : Prop := sha2GoesUptoRow.holds Try.pinned (OpenSpec.upto sha2GoesSpec)

end Rows
end Go.Proofs.Ytcokmlbpomopkaa
