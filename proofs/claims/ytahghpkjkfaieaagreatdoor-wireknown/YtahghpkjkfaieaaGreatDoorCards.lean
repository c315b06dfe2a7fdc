/-
  DERIVED. GIVEN WITH THE SEED: THE CARDS: each row of YtahghpkjkfaieaaGreatDoorRows.lean that lists a variable, with what it lists TIED to the program's text (the seventh form; the later family's looks); each row that meets fmt, with fmt's text TOLD by the authors' own Lean function (tested against real Go, not proved from fmt's source: count such statements apart). THE CARD IS WHAT COUNTS. Prove the row's statement (the work); the ties are given (YtahghpkjkfaieaaGreatDoorTie.lean); close each card by the builder's one call (the guide's Derived/Test/ToyasCard.lean, 'card_holds'). Laid BY PROGRAM, IN A SANDBOX (cutbox-door.mjs). By AI agents, Wed Nov 11 2026. No macro, syntax, notation, axiom, sorry.
-/
import Derived.Test.YtahghpkjkfaieaaGreatDoorRows
import GoSem.ClaimSeven
namespace Go.Proofs.YtahghpkjkfaieaaGreatDoor
namespace Rows

/-- THE TIED CARD OF 'reliquarylaw11.SuiteKnown'. -/
def suiteKnownCard : Claim7 := { stood := { row := suiteKnownRow, standIns := [], harness := (true, "1638e1804e2444fd9c8b62059815566dc7bde9bce2bee743abe36d85480db343"), looks := false }, kinds := [], alts := [], laidByText := true, laidKinds := [.data], laidTests := true, laidLooks := .later }
def SuiteKnownCardSaid : Prop := Claim7.holds Tryz.pinned (.plain (OpenSpec.ofChange suiteKnownSpec)) suiteKnownCard

/-- THE TIED CARD OF 'reliquarylaw12.WireKnown'. -/
def wireKnownCard : Claim7 := { stood := { row := wireKnownRow, standIns := [], harness := (true, "1638e1804e2444fd9c8b62059815566dc7bde9bce2bee743abe36d85480db343"), looks := false }, kinds := [], alts := [], laidByText := true, laidKinds := [.data], laidTests := true, laidLooks := .later }
def WireKnownCardSaid : Prop := Claim7.holds Tryz.pinned (.plain (OpenSpec.ofChange wireKnownSpec)) wireKnownCard

/-- THE SECOND FORM's CARD OF 'reliquarylaw11.SuiteKnown'. -/
def suiteKnownUptoCard : Claim7 := { stood := { row := suiteKnownUptoRow, standIns := [], harness := (true, "1638e1804e2444fd9c8b62059815566dc7bde9bce2bee743abe36d85480db343"), looks := false }, kinds := [], alts := [], laidByText := true, laidKinds := [.data], laidTests := true, laidLooks := .later }
def SuiteKnownUptoCardSaid : Prop := Claim7.holds Tryz.pinned (.plain (OpenSpec.upto suiteKnownSpec)) suiteKnownUptoCard

/-- THE SECOND FORM's CARD OF 'reliquarylaw12.WireKnown'. -/
def wireKnownUptoCard : Claim7 := { stood := { row := wireKnownUptoRow, standIns := [], harness := (true, "1638e1804e2444fd9c8b62059815566dc7bde9bce2bee743abe36d85480db343"), looks := false }, kinds := [], alts := [], laidByText := true, laidKinds := [.data], laidTests := true, laidLooks := .later }
def WireKnownUptoCardSaid : Prop := Claim7.holds Tryz.pinned (.plain (OpenSpec.upto wireKnownSpec)) wireKnownUptoCard
end Rows
end Go.Proofs.YtahghpkjkfaieaaGreatDoor
