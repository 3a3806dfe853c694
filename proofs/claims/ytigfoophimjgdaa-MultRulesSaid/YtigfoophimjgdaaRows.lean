/-
  No cell of these rows narrows 'for every input' (looked for: loops, veiled, ifaces, maps, wideKeys, modest, calm, conditions, laid).
  DERIVED. THE GIVEN ROWS OF THIS SEAT. 4 by the template 'for every input the law returns true; each argument reads behind the call as it read before'; 0 by the template 'total and deterministic' (their statements: YtigfoophimjgdaaTotals.lean).
  GIVEN WITH THE SEED: the statements are not yours to turn. If you find one false, say at which input.
  Laid BY PROGRAM, IN A SANDBOX (cutbox-rows.mjs): the forced cells as the released guide's own fill.sh prints them over the translation 7826384b380f7779… (all of the seat's roots in one cut). By AI agents, Wed Nov 11 2026. No macro, syntax, notation, axiom, sorry.
-/
import Derived.Test.YtigfoophimjgdaaChecked
import GoSem.Claim
import GoSem.ClaimJoined
import GoSem.ClaimMapViews
import Derived.JoinedTies
import Derived.KernelRfl
namespace Go.Proofs.Ytigfoophimjgdaa
/- THE CELL 'sum', in the pinned program and in every row, IS THE sha256 OF THE DUMP (.gsa) THAT YtigfoophimjgdaaProg.lean LOADS. Nothing in Lean hashes anything: it is a label: what it is worth is what the hold of that sum in a sandbox is worth. -/
noncomputable def Try.pinned : Pinned := { name := "ytigfoophimjgdaa", sum := "7826384b380f777980f5bf4f5036d83f0e02414097c515190f3883cad699a956", checked := Try.checked }
namespace Rows
def none {H : Type} : Left H := { results := [], args := [] }

/-- 'sealringlaw21.PcodeWrites': WHATEVER THE INPUT: true; the input reads as it did. -/
def pcodeWritesSpec : ChangeSpec := { name := "pcodeWrites", fn := fun _ => fun
  | [d1, d2] => { results := [.lit (.bool true)], args := [d1, d2] }
  | _ => none }
def pcodeWritesRow : OpenClaim := { program := "ytigfoophimjgdaa", sum := "7826384b380f777980f5bf4f5036d83f0e02414097c515190f3883cad699a956", func := "sealring/sealringlaw21.PcodeWrites", spec := "pcodeWrites", inPlace := ["math/bits.Sub64", "math/bits.Add64"], unfollowed := true, recurses := true, apart := false }
def PcodeWritesSaid : Prop := pcodeWritesRow.holds Try.pinned (OpenSpec.ofChange pcodeWritesSpec)

/-- ITS FALSE NEIGHBOUR: 'it returns false'. Refute it at one input. -/
def pcodeWritesWrong : ChangeSpec := { name := "pcodeWrites", fn := fun _ => fun
  | [d1, d2] => { results := [.lit (.bool false)], args := [d1, d2] }
  | _ => none }
def PcodeWritesWrongFalsely : Prop := pcodeWritesRow.holds Try.pinned (OpenSpec.ofChange pcodeWritesWrong)

/-- 'sealringlaw21.PcodeReads': WHATEVER THE INPUT: true; the input reads as it did. -/
def pcodeReadsSpec : ChangeSpec := { name := "pcodeReads", fn := fun _ => fun
  | [d] => { results := [.lit (.bool true)], args := [d] }
  | _ => none }
def pcodeReadsRow : OpenClaim := { program := "ytigfoophimjgdaa", sum := "7826384b380f777980f5bf4f5036d83f0e02414097c515190f3883cad699a956", func := "sealring/sealringlaw21.PcodeReads", spec := "pcodeReads", inPlace := ["math/bits.Add64", "math/bits.Sub64"], unfollowed := true, recurses := true, apart := false }
def PcodeReadsSaid : Prop := pcodeReadsRow.holds Try.pinned (OpenSpec.ofChange pcodeReadsSpec)

/-- ITS FALSE NEIGHBOUR: 'it returns false'. Refute it at one input. -/
def pcodeReadsWrong : ChangeSpec := { name := "pcodeReads", fn := fun _ => fun
  | [d] => { results := [.lit (.bool false)], args := [d] }
  | _ => none }
def PcodeReadsWrongFalsely : Prop := pcodeReadsRow.holds Try.pinned (OpenSpec.ofChange pcodeReadsWrong)

/-- 'sealringlaw23.MultTells': WHATEVER THE INPUT: true; the input reads as it did. -/
def multTellsSpec : ChangeSpec := { name := "multTells", fn := fun _ => fun
  | [d1, d2, d3] => { results := [.lit (.bool true)], args := [d1, d2, d3] }
  | _ => none }
def multTellsRow : OpenClaim := { program := "ytigfoophimjgdaa", sum := "7826384b380f777980f5bf4f5036d83f0e02414097c515190f3883cad699a956", func := "sealring/sealringlaw23.MultTells", spec := "multTells", inPlace := ["math/bits.Sub64", "math/bits.Add64"], unfollowed := true, recurses := true, apart := false }
def MultTellsSaid : Prop := multTellsRow.holds Try.pinned (OpenSpec.ofChange multTellsSpec)

/-- ITS FALSE NEIGHBOUR: 'it returns false'. Refute it at one input. -/
def multTellsWrong : ChangeSpec := { name := "multTells", fn := fun _ => fun
  | [d1, d2, d3] => { results := [.lit (.bool false)], args := [d1, d2, d3] }
  | _ => none }
def MultTellsWrongFalsely : Prop := multTellsRow.holds Try.pinned (OpenSpec.ofChange multTellsWrong)

/-- 'sealringlaw23.MultRules': WHATEVER THE INPUT: true; the input reads as it did. -/
def multRulesSpec : ChangeSpec := { name := "multRules", fn := fun _ => fun
  | [d1, d2, d3] => { results := [.lit (.bool true)], args := [d1, d2, d3] }
  | _ => none }
def multRulesRow : OpenClaim := { program := "ytigfoophimjgdaa", sum := "7826384b380f777980f5bf4f5036d83f0e02414097c515190f3883cad699a956", func := "sealring/sealringlaw23.MultRules", spec := "multRules", inPlace := ["math/bits.Add64", "math/bits.Sub64"], unfollowed := true, recurses := true, apart := false }
def MultRulesSaid : Prop := multRulesRow.holds Try.pinned (OpenSpec.ofChange multRulesSpec)

/-- ITS FALSE NEIGHBOUR: 'it returns false'. Refute it at one input. -/
def multRulesWrong : ChangeSpec := { name := "multRules", fn := fun _ => fun
  | [d1, d2, d3] => { results := [.lit (.bool false)], args := [d1, d2, d3] }
  | _ => none }
def MultRulesWrongFalsely : Prop := multRulesRow.holds Try.pinned (OpenSpec.ofChange multRulesWrong)

/- THE SECOND FORM. 'bulk': how many values and letters a reading holds, each counted each time it is reached (what is shared counts as often as it is met; a slice's spare places count too). A statement '..UptoSaid' is the law's where the arguments, and the package variables that the reading takes, are together of bulk at most 1048576: NARROWER than '..Said'. Prove '..Said' where nothing that the law and all that it calls make is longer than what came in: it says more and counts as full. Else prove '..UptoSaid'. A law counts once. -/
mutual
def uptoBulk {H : Type} : DataW H → Nat
  | .lit (.string bytes) => bytes.length + 1
  | .lit _ => 1
  | .nil => 1
  | .ptr d => uptoBulk d + 1
  | .slice elems spare => uptoBulkAll elems + uptoBulkAll spare + 1
  | .agg parts => uptoBulkAll parts + 1
  | .iface _ d => uptoBulk d + 1
  | .map entries => uptoBulkEntries entries + 1
  | .held _ => 1
def uptoBulkAll {H : Type} : List (DataW H) → Nat
  | [] => 0
  | d :: r => uptoBulk d + uptoBulkAll r
def uptoBulkEntries {H : Type} : List (Lit × DataW H) → Nat
  | [] => 0
  | x :: r => uptoBulkEntry x + uptoBulkEntries r
def uptoBulkEntry {H : Type} : Lit × DataW H → Nat
  | (.string bytes, d) => bytes.length + uptoBulk d + 1
  | (_, d) => uptoBulk d + 1
 end
def uptoSmall : (H : Type) → List (DataW H) → Bool := fun _ ds => decide (uptoBulkAll ds ≤ 1048576)
def OpenSpec.upto (s : _root_.Go.ChangeSpec) : _root_.Go.OpenSpec := { _root_.Go.OpenSpec.ofChange s with cond := some uptoSmall }

/-- 'sealringlaw21.PcodeWrites', WHERE WHAT IT READS IS OF BULK AT MOST 1048576: true; the input reads as it did. -/
def pcodeWritesUptoRow : OpenClaim := { program := "ytigfoophimjgdaa", sum := "7826384b380f777980f5bf4f5036d83f0e02414097c515190f3883cad699a956", func := "sealring/sealringlaw21.PcodeWrites", spec := "pcodeWrites", inPlace := ["math/bits.Sub64", "math/bits.Add64"], unfollowed := true, recurses := true, apart := false, narrowed := true }
def PcodeWritesUptoSaid : Prop := pcodeWritesUptoRow.holds Try.pinned (OpenSpec.upto pcodeWritesSpec)

/-- 'sealringlaw21.PcodeReads', WHERE WHAT IT READS IS OF BULK AT MOST 1048576: true; the input reads as it did. -/
def pcodeReadsUptoRow : OpenClaim := { program := "ytigfoophimjgdaa", sum := "7826384b380f777980f5bf4f5036d83f0e02414097c515190f3883cad699a956", func := "sealring/sealringlaw21.PcodeReads", spec := "pcodeReads", inPlace := ["math/bits.Add64", "math/bits.Sub64"], unfollowed := true, recurses := true, apart := false, narrowed := true }
def PcodeReadsUptoSaid : Prop := pcodeReadsUptoRow.holds Try.pinned (OpenSpec.upto pcodeReadsSpec)

/-- 'sealringlaw23.MultTells', WHERE WHAT IT READS IS OF BULK AT MOST 1048576: true; the input reads as it did. -/
def multTellsUptoRow : OpenClaim := { program := "ytigfoophimjgdaa", sum := "7826384b380f777980f5bf4f5036d83f0e02414097c515190f3883cad699a956", func := "sealring/sealringlaw23.MultTells", spec := "multTells", inPlace := ["math/bits.Sub64", "math/bits.Add64"], unfollowed := true, recurses := true, apart := false, narrowed := true }
def MultTellsUptoSaid : Prop := multTellsUptoRow.holds Try.pinned (OpenSpec.upto multTellsSpec)

/-- 'sealringlaw23.MultRules', WHERE WHAT IT READS IS OF BULK AT MOST 1048576: true; the input reads as it did. -/
def multRulesUptoRow : OpenClaim := { program := "ytigfoophimjgdaa", sum := "7826384b380f777980f5bf4f5036d83f0e02414097c515190f3883cad699a956", func := "sealring/sealringlaw23.MultRules", spec := "multRules", inPlace := ["math/bits.Add64", "math/bits.Sub64"], unfollowed := true, recurses := true, apart := false, narrowed := true }
def MultRulesUptoSaid : Prop := multRulesUptoRow.holds Try.pinned (OpenSpec.upto multRulesSpec)

end Rows
end Go.Proofs.Ytigfoophimjgdaa
