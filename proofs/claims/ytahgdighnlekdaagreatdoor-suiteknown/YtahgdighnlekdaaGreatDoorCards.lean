/-
  DERIVED. GIVEN WITH THE SEED: THE CARDS: each row of YtahgdighnlekdaaGreatDoorRows.lean that lists a variable, with what it lists TIED to the program's text (the seventh form; the later family's looks); each row that meets fmt, with fmt's text TOLD by the authors' own Lean function (tested against real Go, not proved from fmt's source: count such statements apart). THE CARD IS WHAT COUNTS. Prove the row's statement (the work); the ties are given (YtahgdighnlekdaaGreatDoorTie.lean); close each card by the builder's one call (the guide's Derived/Test/ToyasCard.lean, 'card_holds'). Laid BY PROGRAM, IN A SANDBOX (cutbox-door.mjs). By AI agents, Wed Nov 11 2026. No macro, syntax, notation, axiom, sorry.
-/
import Derived.Test.YtahgdighnlekdaaGreatDoorRows
import GoSem.ClaimSeven
namespace Go.Proofs.YtahgdighnlekdaaGreatDoor
namespace Rows

/-- THE TIED CARD OF 'reliquarylaw11.SuiteKnown'. -/
def suiteKnownCard : Claim7 := { stood := { row := suiteKnownRow, standIns := [], harness := (true, "baa2d207073f95a7827be49a1a84d5700a9ff7bfd21b4b3bcaf0994f618ed5a5"), looks := false }, kinds := [], alts := [], laidByText := true, laidKinds := [.data], laidTests := true, laidLooks := .later }
def SuiteKnownCardSaid : Prop := Claim7.holds Tryz.pinned (.plain (OpenSpec.ofChange suiteKnownSpec)) suiteKnownCard

/-- THE SECOND FORM's CARD OF 'reliquarylaw11.SuiteKnown'. -/
def suiteKnownUptoCard : Claim7 := { stood := { row := suiteKnownUptoRow, standIns := [], harness := (true, "baa2d207073f95a7827be49a1a84d5700a9ff7bfd21b4b3bcaf0994f618ed5a5"), looks := false }, kinds := [], alts := [], laidByText := true, laidKinds := [.data], laidTests := true, laidLooks := .later }
def SuiteKnownUptoCardSaid : Prop := Claim7.holds Tryz.pinned (.plain (OpenSpec.upto suiteKnownSpec)) suiteKnownUptoCard
end Rows
end Go.Proofs.YtahgdighnlekdaaGreatDoor
