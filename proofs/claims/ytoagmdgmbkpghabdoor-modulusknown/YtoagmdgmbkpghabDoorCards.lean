/-
  DERIVED. GIVEN WITH THE SEED: THE CARDS: each row of YtoagmdgmbkpghabDoorRows.lean that lists a variable, with what it lists TIED to the program's text (the seventh form; the later family's looks); each row that meets fmt, with fmt's text TOLD by the authors' own Lean function (tested against real Go, not proved from fmt's source: count such statements apart). THE CARD IS WHAT COUNTS. Prove the row's statement (the work); the ties are given (YtoagmdgmbkpghabDoorTie.lean); close each card by the builder's one call (the guide's Derived/Test/ToyasCard.lean, 'card_holds'). Laid BY PROGRAM, IN A SANDBOX (cutbox-door.mjs). By AI agents, Wed Nov 11 2026. No macro, syntax, notation, axiom, sorry.
-/
import Derived.Test.YtoagmdgmbkpghabDoorRows
import GoSem.ClaimSeven
namespace Go.Proofs.YtoagmdgmbkpghabDoor
namespace Rows

/-- THE TIED CARD OF 'reliquarylaw02.ModulusFields'. -/
def modulusFieldsCard : Claim7 := { stood := { row := modulusFieldsRow, standIns := [], harness := (true, "8d9eb19281a15bfe7c8c8aef55bcde7509d8ead69c54d23154f4160b0e4b0f07"), looks := false }, kinds := [], alts := [], laidByText := true, laidKinds := [.data], laidTests := true, laidLooks := .later }
def ModulusFieldsCardSaid : Prop := Claim7.holds Tryd.pinned (.plain (OpenSpec.ofChange modulusFieldsSpec)) modulusFieldsCard

/-- THE TIED CARD OF 'reliquarylaw02.ModulusKnown'. -/
def modulusKnownCard : Claim7 := { stood := { row := modulusKnownRow, standIns := [], harness := (true, "8d9eb19281a15bfe7c8c8aef55bcde7509d8ead69c54d23154f4160b0e4b0f07"), looks := false }, kinds := [], alts := [], laidByText := true, laidKinds := [.data], laidTests := true, laidLooks := .later }
def ModulusKnownCardSaid : Prop := Claim7.holds Tryd.pinned (.plain (OpenSpec.ofChange modulusKnownSpec)) modulusKnownCard

/-- THE SECOND FORM's CARD OF 'reliquarylaw02.ModulusFields'. -/
def modulusFieldsUptoCard : Claim7 := { stood := { row := modulusFieldsUptoRow, standIns := [], harness := (true, "8d9eb19281a15bfe7c8c8aef55bcde7509d8ead69c54d23154f4160b0e4b0f07"), looks := false }, kinds := [], alts := [], laidByText := true, laidKinds := [.data], laidTests := true, laidLooks := .later }
def ModulusFieldsUptoCardSaid : Prop := Claim7.holds Tryd.pinned (.plain (OpenSpec.upto modulusFieldsSpec)) modulusFieldsUptoCard

/-- THE SECOND FORM's CARD OF 'reliquarylaw02.ModulusKnown'. -/
def modulusKnownUptoCard : Claim7 := { stood := { row := modulusKnownUptoRow, standIns := [], harness := (true, "8d9eb19281a15bfe7c8c8aef55bcde7509d8ead69c54d23154f4160b0e4b0f07"), looks := false }, kinds := [], alts := [], laidByText := true, laidKinds := [.data], laidTests := true, laidLooks := .later }
def ModulusKnownUptoCardSaid : Prop := Claim7.holds Tryd.pinned (.plain (OpenSpec.upto modulusKnownSpec)) modulusKnownUptoCard
end Rows
end Go.Proofs.YtoagmdgmbkpghabDoor
