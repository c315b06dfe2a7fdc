/-
  DERIVED. GIVEN WITH THE SEED: THE CARDS: each row of YtmanelnacifgcaaGreatDoorRows.lean that lists a variable, with what it lists TIED to the program's text (the seventh form; the later family's looks); each row that meets fmt, with fmt's text TOLD by the authors' own Lean function (tested against real Go, not proved from fmt's source: count such statements apart). THE CARD IS WHAT COUNTS. Prove the row's statement (the work); the ties are given (YtmanelnacifgcaaGreatDoorTie.lean); close each card by the builder's one call (the guide's Derived/Test/ToyasCard.lean, 'card_holds'). Laid BY PROGRAM, IN A SANDBOX (cutbox-door.mjs). By AI agents, Wed Nov 11 2026. No macro, syntax, notation, axiom, sorry.
-/
import Derived.Test.YtmanelnacifgcaaGreatDoorRows
import GoSem.ClaimSeven
namespace Go.Proofs.YtmanelnacifgcaaGreatDoor
namespace Rows

/-- THE TIED CARD OF 'reliquarylaw04.CurveOrders'. -/
def curveOrdersCard : Claim7 := { stood := { row := curveOrdersRow, standIns := [], harness := (true, "39b1f97b53952f99e399973c0346edf1861fa305924c1321cbed12a5b51b8d80"), looks := false }, kinds := [], alts := [], laidByText := true, laidKinds := [.data], laidTests := true, laidLooks := .later }
def CurveOrdersCardSaid : Prop := Claim7.holds Tryz.pinned (.plain (OpenSpec.ofChange curveOrdersSpec)) curveOrdersCard

/-- THE TIED CARD OF 'reliquarylaw04.CurveKnown'. -/
def curveKnownCard : Claim7 := { stood := { row := curveKnownRow, standIns := [], harness := (true, "39b1f97b53952f99e399973c0346edf1861fa305924c1321cbed12a5b51b8d80"), looks := false }, kinds := [], alts := [], laidByText := true, laidKinds := [.data], laidTests := true, laidLooks := .later }
def CurveKnownCardSaid : Prop := Claim7.holds Tryz.pinned (.plain (OpenSpec.ofChange curveKnownSpec)) curveKnownCard

/-- THE TIED CARD OF 'reliquarylaw05.PointBack'. -/
def pointBackCard : Claim7 := { stood := { row := pointBackRow, standIns := [], harness := (true, "39b1f97b53952f99e399973c0346edf1861fa305924c1321cbed12a5b51b8d80"), looks := false }, kinds := [], alts := [], laidByText := true, laidKinds := [.data], laidTests := true, laidLooks := .later }
def PointBackCardSaid : Prop := Claim7.holds Tryz.pinned (.plain (OpenSpec.ofChange pointBackSpec)) pointBackCard

/-- THE TIED CARD OF 'reliquarylaw05.PointSigns'. -/
def pointSignsCard : Claim7 := { stood := { row := pointSignsRow, standIns := [], harness := (true, "39b1f97b53952f99e399973c0346edf1861fa305924c1321cbed12a5b51b8d80"), looks := false }, kinds := [], alts := [], laidByText := true, laidKinds := [.data], laidTests := true, laidLooks := .later }
def PointSignsCardSaid : Prop := Claim7.holds Tryz.pinned (.plain (OpenSpec.ofChange pointSignsSpec)) pointSignsCard

/-- THE SECOND FORM's CARD OF 'reliquarylaw04.CurveOrders'. -/
def curveOrdersUptoCard : Claim7 := { stood := { row := curveOrdersUptoRow, standIns := [], harness := (true, "39b1f97b53952f99e399973c0346edf1861fa305924c1321cbed12a5b51b8d80"), looks := false }, kinds := [], alts := [], laidByText := true, laidKinds := [.data], laidTests := true, laidLooks := .later }
def CurveOrdersUptoCardSaid : Prop := Claim7.holds Tryz.pinned (.plain (OpenSpec.upto curveOrdersSpec)) curveOrdersUptoCard

/-- THE SECOND FORM's CARD OF 'reliquarylaw04.CurveKnown'. -/
def curveKnownUptoCard : Claim7 := { stood := { row := curveKnownUptoRow, standIns := [], harness := (true, "39b1f97b53952f99e399973c0346edf1861fa305924c1321cbed12a5b51b8d80"), looks := false }, kinds := [], alts := [], laidByText := true, laidKinds := [.data], laidTests := true, laidLooks := .later }
def CurveKnownUptoCardSaid : Prop := Claim7.holds Tryz.pinned (.plain (OpenSpec.upto curveKnownSpec)) curveKnownUptoCard

/-- THE SECOND FORM's CARD OF 'reliquarylaw05.PointBack'. -/
def pointBackUptoCard : Claim7 := { stood := { row := pointBackUptoRow, standIns := [], harness := (true, "39b1f97b53952f99e399973c0346edf1861fa305924c1321cbed12a5b51b8d80"), looks := false }, kinds := [], alts := [], laidByText := true, laidKinds := [.data], laidTests := true, laidLooks := .later }
def PointBackUptoCardSaid : Prop := Claim7.holds Tryz.pinned (.plain (OpenSpec.upto pointBackSpec)) pointBackUptoCard

/-- THE SECOND FORM's CARD OF 'reliquarylaw05.PointSigns'. -/
def pointSignsUptoCard : Claim7 := { stood := { row := pointSignsUptoRow, standIns := [], harness := (true, "39b1f97b53952f99e399973c0346edf1861fa305924c1321cbed12a5b51b8d80"), looks := false }, kinds := [], alts := [], laidByText := true, laidKinds := [.data], laidTests := true, laidLooks := .later }
def PointSignsUptoCardSaid : Prop := Claim7.holds Tryz.pinned (.plain (OpenSpec.upto pointSignsSpec)) pointSignsUptoCard
end Rows
end Go.Proofs.YtmanelnacifgcaaGreatDoor
