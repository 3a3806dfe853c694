/-
  No cell of these rows narrows 'for every input' (looked for: loops, veiled, ifaces, maps, wideKeys, modest, calm, conditions, laid).
  DERIVED. THE GIVEN ROWS OF THIS SEAT. 3 by the template 'for every input the law returns true; each argument reads behind the call as it read before'; 0 by the template 'total and deterministic' (their statements: YtmpbndhlnnfbfaaTotals.lean).
  GIVEN WITH THE SEED: the statements are not yours to turn. If you find one false, say at which input.
  Laid BY PROGRAM, IN A SANDBOX (cutbox-rows.mjs): the forced cells as the released guide's own fill.sh prints them over the translation 9ec4af9ddffe3064… (all of the seat's roots in one cut). By AI agents, Wed Nov 11 2026. No macro, syntax, notation, axiom, sorry.
-/
import Derived.Test.YtmpbndhlnnfbfaaChecked
import GoSem.Claim
import GoSem.ClaimJoined
import GoSem.ClaimMapViews
import Derived.JoinedTies
import Derived.KernelRfl
namespace Go.Proofs.Ytmpbndhlnnfbfaa
/- THE CELL 'sum', in the pinned program and in every row, IS THE sha256 OF THE DUMP (.gsa) THAT YtmpbndhlnnfbfaaProg.lean LOADS. Nothing in Lean hashes anything: it is a label: what it is worth is what the hold of that sum in a sandbox is worth. -/
noncomputable def Try.pinned : Pinned := { name := "ytmpbndhlnnfbfaa", sum := "9ec4af9ddffe306422a93f30ab9b0c1218362878349e80e384f27a4939e4c40d", checked := Try.checked }
namespace Rows
def none {H : Type} : Left H := { results := [], args := [] }

/-- 'sealringlaw19.PrimeBytes': WHATEVER THE INPUT: true; the input reads as it did. -/
def primeBytesSpec : ChangeSpec := { name := "primeBytes", fn := fun _ => fun
  | [d1, d2] => { results := [.lit (.bool true)], args := [d1, d2] }
  | _ => none }
def primeBytesRow : OpenClaim := { program := "ytmpbndhlnnfbfaa", sum := "9ec4af9ddffe306422a93f30ab9b0c1218362878349e80e384f27a4939e4c40d", func := "sealring/sealringlaw19.PrimeBytes", spec := "primeBytes", inPlace := ["math/bits.Sub64", "math/bits.Add64"], unfollowed := true, recurses := true, apart := false }
def PrimeBytesSaid : Prop := primeBytesRow.holds Try.pinned (OpenSpec.ofChange primeBytesSpec)

/-- ITS FALSE NEIGHBOUR: 'it returns false'. Refute it at one input. -/
def primeBytesWrong : ChangeSpec := { name := "primeBytes", fn := fun _ => fun
  | [d1, d2] => { results := [.lit (.bool false)], args := [d1, d2] }
  | _ => none }
def PrimeBytesWrongFalsely : Prop := primeBytesRow.holds Try.pinned (OpenSpec.ofChange primeBytesWrong)

/-- 'sealringlaw19.PrimeReckons': WHATEVER THE INPUT: true; the input reads as it did. -/
def primeReckonsSpec : ChangeSpec := { name := "primeReckons", fn := fun _ => fun
  | [d] => { results := [.lit (.bool true)], args := [d] }
  | _ => none }
def primeReckonsRow : OpenClaim := { program := "ytmpbndhlnnfbfaa", sum := "9ec4af9ddffe306422a93f30ab9b0c1218362878349e80e384f27a4939e4c40d", func := "sealring/sealringlaw19.PrimeReckons", spec := "primeReckons", inPlace := ["math/bits.Add64", "math/bits.Sub64"], unfollowed := true, recurses := true, apart := false }
def PrimeReckonsSaid : Prop := primeReckonsRow.holds Try.pinned (OpenSpec.ofChange primeReckonsSpec)

/-- ITS FALSE NEIGHBOUR: 'it returns false'. Refute it at one input. -/
def primeReckonsWrong : ChangeSpec := { name := "primeReckons", fn := fun _ => fun
  | [d] => { results := [.lit (.bool false)], args := [d] }
  | _ => none }
def PrimeReckonsWrongFalsely : Prop := primeReckonsRow.holds Try.pinned (OpenSpec.ofChange primeReckonsWrong)

/-- 'sealringlaw19.PrimePowers': WHATEVER THE INPUT: true; the input reads as it did. -/
def primePowersSpec : ChangeSpec := { name := "primePowers", fn := fun _ => fun
  | [d1, d2] => { results := [.lit (.bool true)], args := [d1, d2] }
  | _ => none }
def primePowersRow : OpenClaim := { program := "ytmpbndhlnnfbfaa", sum := "9ec4af9ddffe306422a93f30ab9b0c1218362878349e80e384f27a4939e4c40d", func := "sealring/sealringlaw19.PrimePowers", spec := "primePowers", inPlace := ["math/bits.Sub64", "math/bits.Add64"], unfollowed := true, recurses := true, apart := false }
def PrimePowersSaid : Prop := primePowersRow.holds Try.pinned (OpenSpec.ofChange primePowersSpec)

/-- ITS FALSE NEIGHBOUR: 'it returns false'. Refute it at one input. -/
def primePowersWrong : ChangeSpec := { name := "primePowers", fn := fun _ => fun
  | [d1, d2] => { results := [.lit (.bool false)], args := [d1, d2] }
  | _ => none }
def PrimePowersWrongFalsely : Prop := primePowersRow.holds Try.pinned (OpenSpec.ofChange primePowersWrong)

/- THE SECOND FORM. 'bulk': how many values and letters a reading holds, each counted each time it is reached (what is shared counts as often as it is met; a slice's spare places count too). A statement '..UptoSaid' is the law's where the arguments, and the package variables that the reading takes, are together of bulk at most 1048576: NARROWER than '..Said'. Prove '..Said' where nothing that the law and all that it calls make is longer than what came in: it says more and counts as full. Else prove '..UptoSaid'. A law counts once. -/
mutual
def uptoBulk {H : Type} : DataW H → Nat
  | .lit (.string bytes) => bytes.length + 1
  | .lit _ => 1
  | .nil => 1
  | .ptr d => uptoBulk d + 1
  | .slice elems spare => uptoBulkAll elems + uptoBulkAll spare + 1
  | .agg parts => uptoBulkAll parts + 1
  | .iface _ d => uptoBulk d + 1
  | .map entries => uptoBulkEntries entries + 1
  | .held _ => 1
def uptoBulkAll {H : Type} : List (DataW H) → Nat
  | [] => 0
  | d :: r => uptoBulk d + uptoBulkAll r
def uptoBulkEntries {H : Type} : List (Lit × DataW H) → Nat
  | [] => 0
  | x :: r => uptoBulkEntry x + uptoBulkEntries r
def uptoBulkEntry {H : Type} : Lit × DataW H → Nat
  | (.string bytes, d) => bytes.length + uptoBulk d + 1
  | (_, d) => uptoBulk d + 1
 end
def uptoSmall : (H : Type) → List (DataW H) → Bool := fun _ ds => decide (uptoBulkAll ds ≤ 1048576)
def OpenSpec.upto (s : _root_.Go.ChangeSpec) : _root_.Go.OpenSpec := { _root_.Go.OpenSpec.ofChange s with cond := some uptoSmall }

/-- 'sealringlaw19.PrimeBytes', WHERE WHAT IT READS IS OF BULK AT MOST 1048576: true; the input reads as it did. -/
def primeBytesUptoRow : OpenClaim := { program := "ytmpbndhlnnfbfaa", sum := "9ec4af9ddffe306422a93f30ab9b0c1218362878349e80e384f27a4939e4c40d", func := "sealring/sealringlaw19.PrimeBytes", spec := "primeBytes", inPlace := ["math/bits.Sub64", "math/bits.Add64"], unfollowed := true, recurses := true, apart := false, narrowed := true }
def PrimeBytesUptoSaid : Prop := primeBytesUptoRow.holds Try.pinned (OpenSpec.upto primeBytesSpec)

/-- 'sealringlaw19.PrimeReckons', WHERE WHAT IT READS IS OF BULK AT MOST 1048576: true; the input reads as it did. -/
def primeReckonsUptoRow : OpenClaim := { program := "ytmpbndhlnnfbfaa", sum := "9ec4af9ddffe306422a93f30ab9b0c1218362878349e80e384f27a4939e4c40d", func := "sealring/sealringlaw19.PrimeReckons", spec := "primeReckons", inPlace := ["math/bits.Add64", "math/bits.Sub64"], unfollowed := true, recurses := true, apart := false, narrowed := true }
def PrimeReckonsUptoSaid : Prop := primeReckonsUptoRow.holds Try.pinned (OpenSpec.upto primeReckonsSpec)

/-- 'sealringlaw19.PrimePowers', WHERE WHAT IT READS IS OF BULK AT MOST 1048576: true; the input reads as it did. -/
def primePowersUptoRow : OpenClaim := { program := "ytmpbndhlnnfbfaa", sum := "9ec4af9ddffe306422a93f30ab9b0c1218362878349e80e384f27a4939e4c40d", func := "sealring/sealringlaw19.PrimePowers", spec := "primePowers", inPlace := ["math/bits.Sub64", "math/bits.Add64"], unfollowed := true, recurses := true, apart := false, narrowed := true }
def PrimePowersUptoSaid : Prop := primePowersUptoRow.holds Try.pinned (OpenSpec.upto primePowersSpec)

end Rows
end Go.Proofs.Ytmpbndhlnnfbfaa
