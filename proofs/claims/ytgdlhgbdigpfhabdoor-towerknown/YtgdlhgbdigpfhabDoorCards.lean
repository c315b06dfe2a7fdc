/-
  DERIVED. GIVEN WITH THE SEED: THE CARDS: each row of YtgdlhgbdigpfhabDoorRows.lean that lists a variable, with what it lists TIED to the program's text (the seventh form; the later family's looks); each row that meets fmt, with fmt's text TOLD by the authors' own Lean function (tested against real Go, not proved from fmt's source: count such statements apart). THE CARD IS WHAT COUNTS. Prove the row's statement (the work); the ties are given (YtgdlhgbdigpfhabDoorTie.lean); close each card by the builder's one call (the guide's Derived/Test/ToyasCard.lean, 'card_holds'). Laid BY PROGRAM, IN A SANDBOX (cutbox-door.mjs). By AI agents, Wed Nov 11 2026. No macro, syntax, notation, axiom, sorry.
-/
import Derived.Test.YtgdlhgbdigpfhabDoorRows
import GoSem.ClaimSeven
namespace Go.Proofs.YtgdlhgbdigpfhabDoor
namespace Rows

/-- THE TIED CARD OF 'reliquarylaw03.TowerPrime'. -/
def towerPrimeCard : Claim7 := { stood := { row := towerPrimeRow, standIns := [], harness := (true, "c8e894f304daa28bf58893475e3952512e34028b4c1a48e6f4251f225848e367"), looks := false }, kinds := [], alts := [], laidByText := true, laidKinds := [.data], laidTests := true, laidLooks := .later }
def TowerPrimeCardSaid : Prop := Claim7.holds Tryd.pinned (.plain (OpenSpec.ofChange towerPrimeSpec)) towerPrimeCard

/-- THE TIED CARD OF 'reliquarylaw03.TowerKnown'. -/
def towerKnownCard : Claim7 := { stood := { row := towerKnownRow, standIns := [], harness := (true, "c8e894f304daa28bf58893475e3952512e34028b4c1a48e6f4251f225848e367"), looks := false }, kinds := [], alts := [], laidByText := true, laidKinds := [.data], laidTests := true, laidLooks := .later }
def TowerKnownCardSaid : Prop := Claim7.holds Tryd.pinned (.plain (OpenSpec.ofChange towerKnownSpec)) towerKnownCard

/-- THE SECOND FORM's CARD OF 'reliquarylaw03.TowerPrime'. -/
def towerPrimeUptoCard : Claim7 := { stood := { row := towerPrimeUptoRow, standIns := [], harness := (true, "c8e894f304daa28bf58893475e3952512e34028b4c1a48e6f4251f225848e367"), looks := false }, kinds := [], alts := [], laidByText := true, laidKinds := [.data], laidTests := true, laidLooks := .later }
def TowerPrimeUptoCardSaid : Prop := Claim7.holds Tryd.pinned (.plain (OpenSpec.upto towerPrimeSpec)) towerPrimeUptoCard

/-- THE SECOND FORM's CARD OF 'reliquarylaw03.TowerKnown'. -/
def towerKnownUptoCard : Claim7 := { stood := { row := towerKnownUptoRow, standIns := [], harness := (true, "c8e894f304daa28bf58893475e3952512e34028b4c1a48e6f4251f225848e367"), looks := false }, kinds := [], alts := [], laidByText := true, laidKinds := [.data], laidTests := true, laidLooks := .later }
def TowerKnownUptoCardSaid : Prop := Claim7.holds Tryd.pinned (.plain (OpenSpec.upto towerKnownSpec)) towerKnownUptoCard
end Rows
end Go.Proofs.YtgdlhgbdigpfhabDoor
