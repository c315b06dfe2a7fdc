/-
  DERIVED. GIVEN WITH THE SEED: THE CARDS: each row of YtiopefgajapapaaGreatDoorRows.lean that lists a variable, with what it lists TIED to the program's text (the seventh form; the later family's looks); each row that meets fmt, with fmt's text TOLD by the authors' own Lean function (tested against real Go, not proved from fmt's source: count such statements apart). THE CARD IS WHAT COUNTS. Prove the row's statement (the work); the ties are given (YtiopefgajapapaaGreatDoorTie.lean); close each card by the builder's one call (the guide's Derived/Test/ToyasCard.lean, 'card_holds'). Laid BY PROGRAM, IN A SANDBOX (cutbox-door.mjs). By AI agents, Wed Nov 11 2026. No macro, syntax, notation, axiom, sorry.
-/
import Derived.Test.YtiopefgajapapaaGreatDoorRows
import GoSem.ClaimSeven
namespace Go.Proofs.YtiopefgajapapaaGreatDoor
namespace Rows

/-- THE TIED CARD OF 'reliquarylaw18.OrderNil'. -/
def orderNilCard : Claim7 := { stood := { row := orderNilRow, standIns := [], harness := (true, "26cf97958959ce6c48836f8ea7277a546819a8e5e8e2199fc9d832a5a3e6730f"), looks := true }, kinds := [], alts := [], laidByText := true, laidKinds := [.data, .data, .data], laidTests := true, laidLooks := .later }
def OrderNilCardSaid : Prop := Claim7.holds Tryz.pinned (.plain (OpenSpec.ofChange orderNilSpec)) orderNilCard

/-- THE TIED CARD OF 'reliquarylaw18.OrderKnown'. -/
def orderKnownCard : Claim7 := { stood := { row := orderKnownRow, standIns := [], harness := (true, "26cf97958959ce6c48836f8ea7277a546819a8e5e8e2199fc9d832a5a3e6730f"), looks := true }, kinds := [], alts := [], laidByText := true, laidKinds := [.data, .data, .data], laidTests := true, laidLooks := .later }
def OrderKnownCardSaid : Prop := Claim7.holds Tryz.pinned (.plain (OpenSpec.ofChange orderKnownSpec)) orderKnownCard

/-- THE SECOND FORM's CARD OF 'reliquarylaw18.OrderNil'. -/
def orderNilUptoCard : Claim7 := { stood := { row := orderNilUptoRow, standIns := [], harness := (true, "26cf97958959ce6c48836f8ea7277a546819a8e5e8e2199fc9d832a5a3e6730f"), looks := true }, kinds := [], alts := [], laidByText := true, laidKinds := [.data, .data, .data], laidTests := true, laidLooks := .later }
def OrderNilUptoCardSaid : Prop := Claim7.holds Tryz.pinned (.plain (OpenSpec.upto orderNilSpec)) orderNilUptoCard

/-- THE SECOND FORM's CARD OF 'reliquarylaw18.OrderKnown'. -/
def orderKnownUptoCard : Claim7 := { stood := { row := orderKnownUptoRow, standIns := [], harness := (true, "26cf97958959ce6c48836f8ea7277a546819a8e5e8e2199fc9d832a5a3e6730f"), looks := true }, kinds := [], alts := [], laidByText := true, laidKinds := [.data, .data, .data], laidTests := true, laidLooks := .later }
def OrderKnownUptoCardSaid : Prop := Claim7.holds Tryz.pinned (.plain (OpenSpec.upto orderKnownSpec)) orderKnownUptoCard
end Rows
end Go.Proofs.YtiopefgajapapaaGreatDoor
