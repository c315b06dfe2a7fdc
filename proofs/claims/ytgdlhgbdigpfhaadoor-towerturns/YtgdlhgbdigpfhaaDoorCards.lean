/-
  DERIVED. GIVEN WITH THE SEED: THE CARDS: each row of YtgdlhgbdigpfhaaDoorRows.lean that lists a variable, with what it lists TIED to the program's text (the seventh form; the later family's looks); each row that meets fmt, with fmt's text TOLD by the authors' own Lean function (tested against real Go, not proved from fmt's source: count such statements apart). THE CARD IS WHAT COUNTS. Prove the row's statement (the work); the ties are given (YtgdlhgbdigpfhaaDoorTie.lean); close each card by the builder's one call (the guide's Derived/Test/ToyasCard.lean, 'card_holds'). Laid BY PROGRAM, IN A SANDBOX (cutbox-door.mjs). By AI agents, Wed Nov 11 2026. No macro, syntax, notation, axiom, sorry.
-/
import Derived.Test.YtgdlhgbdigpfhaaDoorRows
import GoSem.ClaimSeven
namespace Go.Proofs.YtgdlhgbdigpfhaaDoor
namespace Rows

/-- THE TIED CARD OF 'reliquarylaw03.TowerField2'. -/
def towerField2Card : Claim7 := { stood := { row := towerField2Row, standIns := [], harness := (true, "2b6cb95535b054603e6e1acef87e94edf3bf127485022a3fa3c0f9fde7c932ff"), looks := false }, kinds := [], alts := [], laidByText := true, laidKinds := [.data], laidTests := true, laidLooks := .later }
def TowerField2CardSaid : Prop := Claim7.holds Tryd.pinned (.plain (OpenSpec.ofChange towerField2Spec)) towerField2Card

/-- THE TIED CARD OF 'reliquarylaw03.TowerRoots'. -/
def towerRootsCard : Claim7 := { stood := { row := towerRootsRow, standIns := [], harness := (true, "2b6cb95535b054603e6e1acef87e94edf3bf127485022a3fa3c0f9fde7c932ff"), looks := false }, kinds := [], alts := [], laidByText := true, laidKinds := [.data], laidTests := true, laidLooks := .later }
def TowerRootsCardSaid : Prop := Claim7.holds Tryd.pinned (.plain (OpenSpec.ofChange towerRootsSpec)) towerRootsCard

/-- THE TIED CARD OF 'reliquarylaw03.TowerTurns'. -/
def towerTurnsCard : Claim7 := { stood := { row := towerTurnsRow, standIns := [], harness := (true, "2b6cb95535b054603e6e1acef87e94edf3bf127485022a3fa3c0f9fde7c932ff"), looks := false }, kinds := [], alts := [], laidByText := true, laidKinds := [.data], laidTests := true, laidLooks := .later }
def TowerTurnsCardSaid : Prop := Claim7.holds Tryd.pinned (.plain (OpenSpec.ofChange towerTurnsSpec)) towerTurnsCard

/-- THE SECOND FORM's CARD OF 'reliquarylaw03.TowerField2'. -/
def towerField2UptoCard : Claim7 := { stood := { row := towerField2UptoRow, standIns := [], harness := (true, "2b6cb95535b054603e6e1acef87e94edf3bf127485022a3fa3c0f9fde7c932ff"), looks := false }, kinds := [], alts := [], laidByText := true, laidKinds := [.data], laidTests := true, laidLooks := .later }
def TowerField2UptoCardSaid : Prop := Claim7.holds Tryd.pinned (.plain (OpenSpec.upto towerField2Spec)) towerField2UptoCard

/-- THE SECOND FORM's CARD OF 'reliquarylaw03.TowerRoots'. -/
def towerRootsUptoCard : Claim7 := { stood := { row := towerRootsUptoRow, standIns := [], harness := (true, "2b6cb95535b054603e6e1acef87e94edf3bf127485022a3fa3c0f9fde7c932ff"), looks := false }, kinds := [], alts := [], laidByText := true, laidKinds := [.data], laidTests := true, laidLooks := .later }
def TowerRootsUptoCardSaid : Prop := Claim7.holds Tryd.pinned (.plain (OpenSpec.upto towerRootsSpec)) towerRootsUptoCard

/-- THE SECOND FORM's CARD OF 'reliquarylaw03.TowerTurns'. -/
def towerTurnsUptoCard : Claim7 := { stood := { row := towerTurnsUptoRow, standIns := [], harness := (true, "2b6cb95535b054603e6e1acef87e94edf3bf127485022a3fa3c0f9fde7c932ff"), looks := false }, kinds := [], alts := [], laidByText := true, laidKinds := [.data], laidTests := true, laidLooks := .later }
def TowerTurnsUptoCardSaid : Prop := Claim7.holds Tryd.pinned (.plain (OpenSpec.upto towerTurnsSpec)) towerTurnsUptoCard
end Rows
end Go.Proofs.YtgdlhgbdigpfhaaDoor
