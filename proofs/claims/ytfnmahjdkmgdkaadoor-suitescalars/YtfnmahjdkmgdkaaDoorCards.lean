/-
  DERIVED. GIVEN WITH THE SEED: THE CARDS: each row of YtfnmahjdkmgdkaaDoorRows.lean that lists a variable, with what it lists TIED to the program's text (the seventh form; the later family's looks); each row that meets fmt, with fmt's text TOLD by the authors' own Lean function (tested against real Go, not proved from fmt's source: count such statements apart). THE CARD IS WHAT COUNTS. Prove the row's statement (the work); the ties are given (YtfnmahjdkmgdkaaDoorTie.lean); close each card by the builder's one call (the guide's Derived/Test/ToyasCard.lean, 'card_holds'). Laid BY PROGRAM, IN A SANDBOX (cutbox-door.mjs). By AI agents, Wed Nov 11 2026. No macro, syntax, notation, axiom, sorry.
-/
import Derived.Test.YtfnmahjdkmgdkaaDoorRows
import GoSem.ClaimSeven
namespace Go.Proofs.YtfnmahjdkmgdkaaDoor
namespace Rows

/-- THE TIED CARD OF 'reliquarylaw02.ModulusNone'. -/
def modulusNoneCard : Claim7 := { stood := { row := modulusNoneRow, standIns := [], harness := (true, "e821290892c5d64dbb9cfffd05aa1991cf38364e14d71c02f9cda14896e9b40b"), looks := false }, kinds := [], alts := [], laidByText := true, laidKinds := [.data], laidTests := true, laidLooks := .later }
def ModulusNoneCardSaid : Prop := Claim7.holds Tryd.pinned (.plain (OpenSpec.ofChange modulusNoneSpec)) modulusNoneCard

/-- THE TIED CARD OF 'reliquarylaw11.SuiteField'. -/
def suiteFieldCard : Claim7 := { stood := { row := suiteFieldRow, standIns := [], harness := (true, "e821290892c5d64dbb9cfffd05aa1991cf38364e14d71c02f9cda14896e9b40b"), looks := false }, kinds := [], alts := [], laidByText := true, laidKinds := [.data], laidTests := true, laidLooks := .later }
def SuiteFieldCardSaid : Prop := Claim7.holds Tryd.pinned (.plain (OpenSpec.ofChange suiteFieldSpec)) suiteFieldCard

/-- THE TIED CARD OF 'reliquarylaw11.SuiteScalars'. -/
def suiteScalarsCard : Claim7 := { stood := { row := suiteScalarsRow, standIns := [], harness := (true, "e821290892c5d64dbb9cfffd05aa1991cf38364e14d71c02f9cda14896e9b40b"), looks := false }, kinds := [], alts := [], laidByText := true, laidKinds := [.data], laidTests := true, laidLooks := .later }
def SuiteScalarsCardSaid : Prop := Claim7.holds Tryd.pinned (.plain (OpenSpec.ofChange suiteScalarsSpec)) suiteScalarsCard

/-- THE SECOND FORM's CARD OF 'reliquarylaw02.ModulusNone'. -/
def modulusNoneUptoCard : Claim7 := { stood := { row := modulusNoneUptoRow, standIns := [], harness := (true, "e821290892c5d64dbb9cfffd05aa1991cf38364e14d71c02f9cda14896e9b40b"), looks := false }, kinds := [], alts := [], laidByText := true, laidKinds := [.data], laidTests := true, laidLooks := .later }
def ModulusNoneUptoCardSaid : Prop := Claim7.holds Tryd.pinned (.plain (OpenSpec.upto modulusNoneSpec)) modulusNoneUptoCard

/-- THE SECOND FORM's CARD OF 'reliquarylaw11.SuiteField'. -/
def suiteFieldUptoCard : Claim7 := { stood := { row := suiteFieldUptoRow, standIns := [], harness := (true, "e821290892c5d64dbb9cfffd05aa1991cf38364e14d71c02f9cda14896e9b40b"), looks := false }, kinds := [], alts := [], laidByText := true, laidKinds := [.data], laidTests := true, laidLooks := .later }
def SuiteFieldUptoCardSaid : Prop := Claim7.holds Tryd.pinned (.plain (OpenSpec.upto suiteFieldSpec)) suiteFieldUptoCard

/-- THE SECOND FORM's CARD OF 'reliquarylaw11.SuiteScalars'. -/
def suiteScalarsUptoCard : Claim7 := { stood := { row := suiteScalarsUptoRow, standIns := [], harness := (true, "e821290892c5d64dbb9cfffd05aa1991cf38364e14d71c02f9cda14896e9b40b"), looks := false }, kinds := [], alts := [], laidByText := true, laidKinds := [.data], laidTests := true, laidLooks := .later }
def SuiteScalarsUptoCardSaid : Prop := Claim7.holds Tryd.pinned (.plain (OpenSpec.upto suiteScalarsSpec)) suiteScalarsUptoCard
end Rows
end Go.Proofs.YtfnmahjdkmgdkaaDoor
