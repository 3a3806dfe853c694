/-
  No cell of these rows narrows 'for every input' (looked for: loops, veiled, ifaces, maps, wideKeys, modest, calm, conditions, laid).
  DERIVED. THE GIVEN ROWS OF THIS SEAT. 3 by the template 'for every input the law returns true; each argument reads behind the call as it read before'; 0 by the template 'total and deterministic' (their statements: YtmkcbmlpdkaniaaTotals.lean).
  GIVEN WITH THE SEED: the statements are not yours to turn. If you find one false, say at which input.
  Laid BY PROGRAM, IN A SANDBOX (cutbox-rows.mjs): the forced cells as the released guide's own fill.sh prints them over the translation f1ea8db5ee65329f… (all of the seat's roots in one cut). By AI agents, Wed Nov 11 2026. No macro, syntax, notation, axiom, sorry.
-/
import Derived.Test.YtmkcbmlpdkaniaaChecked
import GoSem.Claim
import GoSem.ClaimJoined
import GoSem.ClaimMapViews
import Derived.JoinedTies
import Derived.KernelRfl
namespace Go.Proofs.Ytmkcbmlpdkaniaa
/- THE CELL 'sum', in the pinned program and in every row, IS THE sha256 OF THE DUMP (.gsa) THAT YtmkcbmlpdkaniaaProg.lean LOADS. Nothing in Lean hashes anything: it is a label: what it is worth is what the hold of that sum in a sandbox is worth. -/
noncomputable def Try.pinned : Pinned := { name := "ytmkcbmlpdkaniaa", sum := "f1ea8db5ee65329f048af9f994afdeaff22d2b7bc81c33352db3f55ea5d0a66b", checked := Try.checked }
namespace Rows
def none {H : Type} : Left H := { results := [], args := [] }

/-- 'sealringlaw02.B64Writes': WHATEVER THE INPUT: true; the input reads as it did. -/
def b64WritesSpec : ChangeSpec := { name := "b64Writes", fn := fun _ => fun
  | [d1, d2, d3] => { results := [.lit (.bool true)], args := [d1, d2, d3] }
  | _ => none }
def b64WritesRow : OpenClaim := { program := "ytmkcbmlpdkaniaa", sum := "f1ea8db5ee65329f048af9f994afdeaff22d2b7bc81c33352db3f55ea5d0a66b", func := "sealring/sealringlaw02.B64Writes", spec := "b64Writes", unfollowed := true, recurses := true, apart := false }
def B64WritesSaid : Prop := b64WritesRow.holds Try.pinned (OpenSpec.ofChange b64WritesSpec)

/-- ITS FALSE NEIGHBOUR: 'it returns false'. Refute it at one input. -/
def b64WritesWrong : ChangeSpec := { name := "b64Writes", fn := fun _ => fun
  | [d1, d2, d3] => { results := [.lit (.bool false)], args := [d1, d2, d3] }
  | _ => none }
def B64WritesWrongFalsely : Prop := b64WritesRow.holds Try.pinned (OpenSpec.ofChange b64WritesWrong)

/-- 'sealringlaw02.B64Reads': WHATEVER THE INPUT: true; the input reads as it did. -/
def b64ReadsSpec : ChangeSpec := { name := "b64Reads", fn := fun _ => fun
  | [d1, d2] => { results := [.lit (.bool true)], args := [d1, d2] }
  | _ => none }
def b64ReadsRow : OpenClaim := { program := "ytmkcbmlpdkaniaa", sum := "f1ea8db5ee65329f048af9f994afdeaff22d2b7bc81c33352db3f55ea5d0a66b", func := "sealring/sealringlaw02.B64Reads", spec := "b64Reads", unfollowed := true, recurses := true, apart := false }
def B64ReadsSaid : Prop := b64ReadsRow.holds Try.pinned (OpenSpec.ofChange b64ReadsSpec)

/-- ITS FALSE NEIGHBOUR: 'it returns false'. Refute it at one input. -/
def b64ReadsWrong : ChangeSpec := { name := "b64Reads", fn := fun _ => fun
  | [d1, d2] => { results := [.lit (.bool false)], args := [d1, d2] }
  | _ => none }
def B64ReadsWrongFalsely : Prop := b64ReadsRow.holds Try.pinned (OpenSpec.ofChange b64ReadsWrong)

/-- 'sealringlaw02.B64Back': WHATEVER THE INPUT: true; the input reads as it did. -/
def b64BackSpec : ChangeSpec := { name := "b64Back", fn := fun _ => fun
  | [d1, d2, d3] => { results := [.lit (.bool true)], args := [d1, d2, d3] }
  | _ => none }
def b64BackRow : OpenClaim := { program := "ytmkcbmlpdkaniaa", sum := "f1ea8db5ee65329f048af9f994afdeaff22d2b7bc81c33352db3f55ea5d0a66b", func := "sealring/sealringlaw02.B64Back", spec := "b64Back", unfollowed := true, recurses := true, apart := false }
def B64BackSaid : Prop := b64BackRow.holds Try.pinned (OpenSpec.ofChange b64BackSpec)

/-- ITS FALSE NEIGHBOUR: 'it returns false'. Refute it at one input. -/
def b64BackWrong : ChangeSpec := { name := "b64Back", fn := fun _ => fun
  | [d1, d2, d3] => { results := [.lit (.bool false)], args := [d1, d2, d3] }
  | _ => none }
def B64BackWrongFalsely : Prop := b64BackRow.holds Try.pinned (OpenSpec.ofChange b64BackWrong)

/- THE SECOND FORM. 'bulk': how many values and letters a reading holds, each counted each time it is reached (what is shared counts as often as it is met; a slice's spare places count too). A statement '..UptoSaid' is the law's where the arguments, and the package variables that the reading takes, are together of bulk at most 1048576: NARROWER than '..Said'. Prove '..Said' where nothing that the law and all that it calls make is longer than what came in: it says more and counts as full. Else prove '..UptoSaid'. A law counts once. -/
mutual
def uptoBulk {H : Type} : DataW H → Nat
  | .lit (.string bytes) => bytes.length + 1
  | .lit _ => 1
  | .nil => 1
  | .ptr d => uptoBulk d + 1
  | .slice elems spare => uptoBulkAll elems + uptoBulkAll spare + 1
  | .agg parts => uptoBulkAll parts + 1
  | .iface _ d => uptoBulk d + 1
  | .map entries => uptoBulkEntries entries + 1
  | .held _ => 1
def uptoBulkAll {H : Type} : List (DataW H) → Nat
  | [] => 0
  | d :: r => uptoBulk d + uptoBulkAll r
def uptoBulkEntries {H : Type} : List (Lit × DataW H) → Nat
  | [] => 0
  | x :: r => uptoBulkEntry x + uptoBulkEntries r
def uptoBulkEntry {H : Type} : Lit × DataW H → Nat
  | (.string bytes, d) => bytes.length + uptoBulk d + 1
  | (_, d) => uptoBulk d + 1
 end
def uptoSmall : (H : Type) → List (DataW H) → Bool := fun _ ds => decide (uptoBulkAll ds ≤ 1048576)
def OpenSpec.upto (s : _root_.Go.ChangeSpec) : _root_.Go.OpenSpec := { _root_.Go.OpenSpec.ofChange s with cond := some uptoSmall }

/-- 'sealringlaw02.B64Writes', WHERE WHAT IT READS IS OF BULK AT MOST 1048576: true; the input reads as it did. -/
def b64WritesUptoRow : OpenClaim := { program := "ytmkcbmlpdkaniaa", sum := "f1ea8db5ee65329f048af9f994afdeaff22d2b7bc81c33352db3f55ea5d0a66b", func := "sealring/sealringlaw02.B64Writes", spec := "b64Writes", unfollowed := true, recurses := true, apart := false, narrowed := true }
def B64WritesUptoSaid : Prop := b64WritesUptoRow.holds Try.pinned (OpenSpec.upto b64WritesSpec)

/-- 'sealringlaw02.B64Reads', WHERE WHAT IT READS IS OF BULK AT MOST 1048576: true; the input reads as it did. -/
def b64ReadsUptoRow : OpenClaim := { program := "ytmkcbmlpdkaniaa", sum := "f1ea8db5ee65329f048af9f994afdeaff22d2b7bc81c33352db3f55ea5d0a66b", func := "sealring/sealringlaw02.B64Reads", spec := "b64Reads", unfollowed := true, recurses := true, apart := false, narrowed := true }
def B64ReadsUptoSaid : Prop := b64ReadsUptoRow.holds Try.pinned (OpenSpec.upto b64ReadsSpec)

/-- 'sealringlaw02.B64Back', WHERE WHAT IT READS IS OF BULK AT MOST 1048576: true; the input reads as it did. -/
def b64BackUptoRow : OpenClaim := { program := "ytmkcbmlpdkaniaa", sum := "f1ea8db5ee65329f048af9f994afdeaff22d2b7bc81c33352db3f55ea5d0a66b", func := "sealring/sealringlaw02.B64Back", spec := "b64Back", unfollowed := true, recurses := true, apart := false, narrowed := true }
def B64BackUptoSaid : Prop := b64BackUptoRow.holds Try.pinned (OpenSpec.upto b64BackSpec)

end Rows
end Go.Proofs.Ytmkcbmlpdkaniaa
