/-
  DERIVED. GIVEN WITH THE SEED: THE CARDS: each row of YtkaigdmoccfbfaaDoorRows.lean that lists a variable, with what it lists TIED to the program's text (the seventh form; the later family's looks); each row that meets fmt, with fmt's text TOLD by the authors' own Lean function (tested against real Go, not proved from fmt's source: count such statements apart). THE CARD IS WHAT COUNTS. Prove the row's statement (the work); the ties are given (YtkaigdmoccfbfaaDoorTie.lean); close each card by the builder's one call (the guide's Derived/Test/ToyasCard.lean, 'card_holds'). Laid BY PROGRAM, IN A SANDBOX (cutbox-door.mjs). By AI agents, Wed Nov 11 2026. No macro, syntax, notation, axiom, sorry.
-/
import Derived.Test.YtkaigdmoccfbfaaDoorRows
import GoSem.ClaimSeven
namespace Go.Proofs.YtkaigdmoccfbfaaDoor
namespace Rows

/-- THE TIED CARD OF 'sealringlaw52.MatchGlobs'. -/
def matchGlobsCard : Claim7 := { stood := { row := matchGlobsRow, standIns := [], harness := (true, "3094e50e7670a609dbbfb81548eeae06525dfff7af803bbfdad96f7b69876906"), looks := false }, kinds := [], alts := [], laidByText := true, laidKinds := [.data, .pinned], laidTests := true, laidLooks := .later }
def MatchGlobsCardSaid : Prop := Claim7.holds Tryd.pinned (.plain (OpenSpec.ofChange matchGlobsSpec)) matchGlobsCard

/-- THE SECOND FORM's CARD OF 'sealringlaw52.MatchGlobs'. -/
def matchGlobsUptoCard : Claim7 := { stood := { row := matchGlobsUptoRow, standIns := [], harness := (true, "3094e50e7670a609dbbfb81548eeae06525dfff7af803bbfdad96f7b69876906"), looks := false }, kinds := [], alts := [], laidByText := true, laidKinds := [.data, .pinned], laidTests := true, laidLooks := .later }
def MatchGlobsUptoCardSaid : Prop := Claim7.holds Tryd.pinned (.plain (OpenSpec.upto matchGlobsSpec)) matchGlobsUptoCard
end Rows
end Go.Proofs.YtkaigdmoccfbfaaDoor
