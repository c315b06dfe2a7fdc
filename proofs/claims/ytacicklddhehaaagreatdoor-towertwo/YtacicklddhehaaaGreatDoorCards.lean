/-
  DERIVED. GIVEN WITH THE SEED: THE CARDS: each row of YtacicklddhehaaaGreatDoorRows.lean that lists a variable, with what it lists TIED to the program's text (the seventh form; the later family's looks); each row that meets fmt, with fmt's text TOLD by the authors' own Lean function (tested against real Go, not proved from fmt's source: count such statements apart). THE CARD IS WHAT COUNTS. Prove the row's statement (the work); the ties are given (YtacicklddhehaaaGreatDoorTie.lean); close each card by the builder's one call (the guide's Derived/Test/ToyasCard.lean, 'card_holds'). Laid BY PROGRAM, IN A SANDBOX (cutbox-door.mjs). By AI agents, Wed Nov 11 2026. No macro, syntax, notation, axiom, sorry.
-/
import Derived.Test.YtacicklddhehaaaGreatDoorRows
import GoSem.ClaimSeven
namespace Go.Proofs.YtacicklddhehaaaGreatDoor
namespace Rows

/-- THE TIED CARD OF 'reliquarylaw03.TowerTwo'. -/
def towerTwoCard : Claim7 := { stood := { row := towerTwoRow, standIns := [], harness := (true, "8a1b7f60e24fd8eb7ffcb859ce84db76d4e71586280f4756ff5f62c34fea3538"), looks := false }, kinds := [], alts := [], laidByText := true, laidKinds := [.data], laidTests := true, laidLooks := .later }
def TowerTwoCardSaid : Prop := Claim7.holds Tryz.pinned (.plain (OpenSpec.ofChange towerTwoSpec)) towerTwoCard

/-- THE SECOND FORM's CARD OF 'reliquarylaw03.TowerTwo'. -/
def towerTwoUptoCard : Claim7 := { stood := { row := towerTwoUptoRow, standIns := [], harness := (true, "8a1b7f60e24fd8eb7ffcb859ce84db76d4e71586280f4756ff5f62c34fea3538"), looks := false }, kinds := [], alts := [], laidByText := true, laidKinds := [.data], laidTests := true, laidLooks := .later }
def TowerTwoUptoCardSaid : Prop := Claim7.holds Tryz.pinned (.plain (OpenSpec.upto towerTwoSpec)) towerTwoUptoCard
end Rows
end Go.Proofs.YtacicklddhehaaaGreatDoor
