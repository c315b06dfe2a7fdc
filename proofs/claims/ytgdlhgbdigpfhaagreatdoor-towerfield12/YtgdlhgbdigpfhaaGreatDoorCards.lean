/-
  DERIVED. GIVEN WITH THE SEED: THE CARDS: each row of YtgdlhgbdigpfhaaGreatDoorRows.lean that lists a variable, with what it lists TIED to the program's text (the seventh form; the later family's looks); each row that meets fmt, with fmt's text TOLD by the authors' own Lean function (tested against real Go, not proved from fmt's source: count such statements apart). THE CARD IS WHAT COUNTS. Prove the row's statement (the work); the ties are given (YtgdlhgbdigpfhaaGreatDoorTie.lean); close each card by the builder's one call (the guide's Derived/Test/ToyasCard.lean, 'card_holds'). Laid BY PROGRAM, IN A SANDBOX (cutbox-door.mjs). By AI agents, Wed Nov 11 2026. No macro, syntax, notation, axiom, sorry.
-/
import Derived.Test.YtgdlhgbdigpfhaaGreatDoorRows
import GoSem.ClaimSeven
namespace Go.Proofs.YtgdlhgbdigpfhaaGreatDoor
namespace Rows

/-- THE TIED CARD OF 'reliquarylaw03.TowerTwo'. -/
def towerTwoCard : Claim7 := { stood := { row := towerTwoRow, standIns := [], harness := (true, "dbb4159bee1427a12b546c7c1e8b6c15b0b5630df410f3f736c8192ef77797e8"), looks := false }, kinds := [], alts := [], laidByText := true, laidKinds := [.data], laidTests := true, laidLooks := .later }
def TowerTwoCardSaid : Prop := Claim7.holds Tryz.pinned (.plain (OpenSpec.ofChange towerTwoSpec)) towerTwoCard

/-- THE TIED CARD OF 'reliquarylaw03.TowerTwelve'. -/
def towerTwelveCard : Claim7 := { stood := { row := towerTwelveRow, standIns := [], harness := (true, "dbb4159bee1427a12b546c7c1e8b6c15b0b5630df410f3f736c8192ef77797e8"), looks := false }, kinds := [], alts := [], laidByText := true, laidKinds := [.data], laidTests := true, laidLooks := .later }
def TowerTwelveCardSaid : Prop := Claim7.holds Tryz.pinned (.plain (OpenSpec.ofChange towerTwelveSpec)) towerTwelveCard

/-- THE TIED CARD OF 'reliquarylaw03.TowerField12'. -/
def towerField12Card : Claim7 := { stood := { row := towerField12Row, standIns := [], harness := (true, "dbb4159bee1427a12b546c7c1e8b6c15b0b5630df410f3f736c8192ef77797e8"), looks := false }, kinds := [], alts := [], laidByText := true, laidKinds := [.data], laidTests := true, laidLooks := .later }
def TowerField12CardSaid : Prop := Claim7.holds Tryz.pinned (.plain (OpenSpec.ofChange towerField12Spec)) towerField12Card

/-- THE SECOND FORM's CARD OF 'reliquarylaw03.TowerTwo'. -/
def towerTwoUptoCard : Claim7 := { stood := { row := towerTwoUptoRow, standIns := [], harness := (true, "dbb4159bee1427a12b546c7c1e8b6c15b0b5630df410f3f736c8192ef77797e8"), looks := false }, kinds := [], alts := [], laidByText := true, laidKinds := [.data], laidTests := true, laidLooks := .later }
def TowerTwoUptoCardSaid : Prop := Claim7.holds Tryz.pinned (.plain (OpenSpec.upto towerTwoSpec)) towerTwoUptoCard

/-- THE SECOND FORM's CARD OF 'reliquarylaw03.TowerTwelve'. -/
def towerTwelveUptoCard : Claim7 := { stood := { row := towerTwelveUptoRow, standIns := [], harness := (true, "dbb4159bee1427a12b546c7c1e8b6c15b0b5630df410f3f736c8192ef77797e8"), looks := false }, kinds := [], alts := [], laidByText := true, laidKinds := [.data], laidTests := true, laidLooks := .later }
def TowerTwelveUptoCardSaid : Prop := Claim7.holds Tryz.pinned (.plain (OpenSpec.upto towerTwelveSpec)) towerTwelveUptoCard

/-- THE SECOND FORM's CARD OF 'reliquarylaw03.TowerField12'. -/
def towerField12UptoCard : Claim7 := { stood := { row := towerField12UptoRow, standIns := [], harness := (true, "dbb4159bee1427a12b546c7c1e8b6c15b0b5630df410f3f736c8192ef77797e8"), looks := false }, kinds := [], alts := [], laidByText := true, laidKinds := [.data], laidTests := true, laidLooks := .later }
def TowerField12UptoCardSaid : Prop := Claim7.holds Tryz.pinned (.plain (OpenSpec.upto towerField12Spec)) towerField12UptoCard
end Rows
end Go.Proofs.YtgdlhgbdigpfhaaGreatDoor
