/-
  DERIVED. GIVEN WITH THE SEED: THE CARDS: each row of YtaomlijondiaoaaGreatDoorRows.lean that lists a variable, with what it lists TIED to the program's text (the seventh form; the later family's looks); each row that meets fmt, with fmt's text TOLD by the authors' own Lean function (tested against real Go, not proved from fmt's source: count such statements apart). THE CARD IS WHAT COUNTS. Prove the row's statement (the work); the ties are given (YtaomlijondiaoaaGreatDoorTie.lean); close each card by the builder's one call (the guide's Derived/Test/ToyasCard.lean, 'card_holds'). Laid BY PROGRAM, IN A SANDBOX (cutbox-door.mjs). By AI agents, Wed Nov 11 2026. No macro, syntax, notation, axiom, sorry.
-/
import Derived.Test.YtaomlijondiaoaaGreatDoorRows
import GoSem.ClaimSeven
namespace Go.Proofs.YtaomlijondiaoaaGreatDoor
namespace Rows

/-- THE TIED CARD OF 'reliquarylaw04.CurveFirst'. -/
def curveFirstCard : Claim7 := { stood := { row := curveFirstRow, standIns := [], harness := (true, "abd61c9f8a9f96a0b02e32ae944d76de89a0c74b9cbdb0a6005c86beed24b090"), looks := false }, kinds := [], alts := [], laidByText := true, laidKinds := [.data], laidTests := true, laidLooks := .later }
def CurveFirstCardSaid : Prop := Claim7.holds Tryz.pinned (.plain (OpenSpec.ofChange curveFirstSpec)) curveFirstCard

/-- THE TIED CARD OF 'reliquarylaw04.CurveSecond'. -/
def curveSecondCard : Claim7 := { stood := { row := curveSecondRow, standIns := [], harness := (true, "abd61c9f8a9f96a0b02e32ae944d76de89a0c74b9cbdb0a6005c86beed24b090"), looks := false }, kinds := [], alts := [], laidByText := true, laidKinds := [.data], laidTests := true, laidLooks := .later }
def CurveSecondCardSaid : Prop := Claim7.holds Tryz.pinned (.plain (OpenSpec.ofChange curveSecondSpec)) curveSecondCard

/-- THE TIED CARD OF 'reliquarylaw04.CurveGroup1'. -/
def curveGroup1Card : Claim7 := { stood := { row := curveGroup1Row, standIns := [], harness := (true, "abd61c9f8a9f96a0b02e32ae944d76de89a0c74b9cbdb0a6005c86beed24b090"), looks := false }, kinds := [], alts := [], laidByText := true, laidKinds := [.data], laidTests := true, laidLooks := .later }
def CurveGroup1CardSaid : Prop := Claim7.holds Tryz.pinned (.plain (OpenSpec.ofChange curveGroup1Spec)) curveGroup1Card

/-- THE TIED CARD OF 'reliquarylaw04.CurveGroup2'. -/
def curveGroup2Card : Claim7 := { stood := { row := curveGroup2Row, standIns := [], harness := (true, "abd61c9f8a9f96a0b02e32ae944d76de89a0c74b9cbdb0a6005c86beed24b090"), looks := false }, kinds := [], alts := [], laidByText := true, laidKinds := [.data], laidTests := true, laidLooks := .later }
def CurveGroup2CardSaid : Prop := Claim7.holds Tryz.pinned (.plain (OpenSpec.ofChange curveGroup2Spec)) curveGroup2Card

/-- THE TIED CARD OF 'reliquarylaw04.CurveTimes'. -/
def curveTimesCard : Claim7 := { stood := { row := curveTimesRow, standIns := [], harness := (true, "abd61c9f8a9f96a0b02e32ae944d76de89a0c74b9cbdb0a6005c86beed24b090"), looks := false }, kinds := [], alts := [], laidByText := true, laidKinds := [.data], laidTests := true, laidLooks := .later }
def CurveTimesCardSaid : Prop := Claim7.holds Tryz.pinned (.plain (OpenSpec.ofChange curveTimesSpec)) curveTimesCard

/-- THE TIED CARD OF 'reliquarylaw04.CurveSums'. -/
def curveSumsCard : Claim7 := { stood := { row := curveSumsRow, standIns := [], harness := (true, "abd61c9f8a9f96a0b02e32ae944d76de89a0c74b9cbdb0a6005c86beed24b090"), looks := false }, kinds := [], alts := [], laidByText := true, laidKinds := [.data], laidTests := true, laidLooks := .later }
def CurveSumsCardSaid : Prop := Claim7.holds Tryz.pinned (.plain (OpenSpec.ofChange curveSumsSpec)) curveSumsCard

/-- THE SECOND FORM's CARD OF 'reliquarylaw04.CurveFirst'. -/
def curveFirstUptoCard : Claim7 := { stood := { row := curveFirstUptoRow, standIns := [], harness := (true, "abd61c9f8a9f96a0b02e32ae944d76de89a0c74b9cbdb0a6005c86beed24b090"), looks := false }, kinds := [], alts := [], laidByText := true, laidKinds := [.data], laidTests := true, laidLooks := .later }
def CurveFirstUptoCardSaid : Prop := Claim7.holds Tryz.pinned (.plain (OpenSpec.upto curveFirstSpec)) curveFirstUptoCard

/-- THE SECOND FORM's CARD OF 'reliquarylaw04.CurveSecond'. -/
def curveSecondUptoCard : Claim7 := { stood := { row := curveSecondUptoRow, standIns := [], harness := (true, "abd61c9f8a9f96a0b02e32ae944d76de89a0c74b9cbdb0a6005c86beed24b090"), looks := false }, kinds := [], alts := [], laidByText := true, laidKinds := [.data], laidTests := true, laidLooks := .later }
def CurveSecondUptoCardSaid : Prop := Claim7.holds Tryz.pinned (.plain (OpenSpec.upto curveSecondSpec)) curveSecondUptoCard

/-- THE SECOND FORM's CARD OF 'reliquarylaw04.CurveGroup1'. -/
def curveGroup1UptoCard : Claim7 := { stood := { row := curveGroup1UptoRow, standIns := [], harness := (true, "abd61c9f8a9f96a0b02e32ae944d76de89a0c74b9cbdb0a6005c86beed24b090"), looks := false }, kinds := [], alts := [], laidByText := true, laidKinds := [.data], laidTests := true, laidLooks := .later }
def CurveGroup1UptoCardSaid : Prop := Claim7.holds Tryz.pinned (.plain (OpenSpec.upto curveGroup1Spec)) curveGroup1UptoCard

/-- THE SECOND FORM's CARD OF 'reliquarylaw04.CurveGroup2'. -/
def curveGroup2UptoCard : Claim7 := { stood := { row := curveGroup2UptoRow, standIns := [], harness := (true, "abd61c9f8a9f96a0b02e32ae944d76de89a0c74b9cbdb0a6005c86beed24b090"), looks := false }, kinds := [], alts := [], laidByText := true, laidKinds := [.data], laidTests := true, laidLooks := .later }
def CurveGroup2UptoCardSaid : Prop := Claim7.holds Tryz.pinned (.plain (OpenSpec.upto curveGroup2Spec)) curveGroup2UptoCard

/-- THE SECOND FORM's CARD OF 'reliquarylaw04.CurveTimes'. -/
def curveTimesUptoCard : Claim7 := { stood := { row := curveTimesUptoRow, standIns := [], harness := (true, "abd61c9f8a9f96a0b02e32ae944d76de89a0c74b9cbdb0a6005c86beed24b090"), looks := false }, kinds := [], alts := [], laidByText := true, laidKinds := [.data], laidTests := true, laidLooks := .later }
def CurveTimesUptoCardSaid : Prop := Claim7.holds Tryz.pinned (.plain (OpenSpec.upto curveTimesSpec)) curveTimesUptoCard

/-- THE SECOND FORM's CARD OF 'reliquarylaw04.CurveSums'. -/
def curveSumsUptoCard : Claim7 := { stood := { row := curveSumsUptoRow, standIns := [], harness := (true, "abd61c9f8a9f96a0b02e32ae944d76de89a0c74b9cbdb0a6005c86beed24b090"), looks := false }, kinds := [], alts := [], laidByText := true, laidKinds := [.data], laidTests := true, laidLooks := .later }
def CurveSumsUptoCardSaid : Prop := Claim7.holds Tryz.pinned (.plain (OpenSpec.upto curveSumsSpec)) curveSumsUptoCard
end Rows
end Go.Proofs.YtaomlijondiaoaaGreatDoor
