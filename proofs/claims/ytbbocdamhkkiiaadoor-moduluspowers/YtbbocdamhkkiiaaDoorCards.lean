/-
  DERIVED. GIVEN WITH THE SEED: THE CARDS: each row of YtbbocdamhkkiiaaDoorRows.lean that lists a variable, with what it lists TIED to the program's text (the seventh form; the later family's looks); each row that meets fmt, with fmt's text TOLD by the authors' own Lean function (tested against real Go, not proved from fmt's source: count such statements apart). THE CARD IS WHAT COUNTS. Prove the row's statement (the work); the ties are given (YtbbocdamhkkiiaaDoorTie.lean); close each card by the builder's one call (the guide's Derived/Test/ToyasCard.lean, 'card_holds'). Laid BY PROGRAM, IN A SANDBOX (cutbox-door.mjs). By AI agents, Wed Nov 11 2026. No macro, syntax, notation, axiom, sorry.
-/
import Derived.Test.YtbbocdamhkkiiaaDoorRows
import GoSem.ClaimSeven
namespace Go.Proofs.YtbbocdamhkkiiaaDoor
namespace Rows

/-- THE TIED CARD OF 'reliquarylaw02.ModulusNone'. -/
def modulusNoneCard : Claim7 := { stood := { row := modulusNoneRow, standIns := [], harness := (true, "86661157f5455ae8e9cf402f716ce3821f498f8349cdea66629d741f6dec99ec"), looks := false }, kinds := [], alts := [], laidByText := true, laidKinds := [.data], laidTests := true, laidLooks := .later }
def ModulusNoneCardSaid : Prop := Claim7.holds Tryd.pinned (.plain (OpenSpec.ofChange modulusNoneSpec)) modulusNoneCard

/-- THE TIED CARD OF 'reliquarylaw02.ModulusRing'. -/
def modulusRingCard : Claim7 := { stood := { row := modulusRingRow, standIns := [], harness := (true, "86661157f5455ae8e9cf402f716ce3821f498f8349cdea66629d741f6dec99ec"), looks := false }, kinds := [], alts := [], laidByText := true, laidKinds := [.data], laidTests := true, laidLooks := .later }
def ModulusRingCardSaid : Prop := Claim7.holds Tryd.pinned (.plain (OpenSpec.ofChange modulusRingSpec)) modulusRingCard

/-- THE TIED CARD OF 'reliquarylaw02.ModulusInv'. -/
def modulusInvCard : Claim7 := { stood := { row := modulusInvRow, standIns := [], harness := (true, "86661157f5455ae8e9cf402f716ce3821f498f8349cdea66629d741f6dec99ec"), looks := false }, kinds := [], alts := [], laidByText := true, laidKinds := [.data], laidTests := true, laidLooks := .later }
def ModulusInvCardSaid : Prop := Claim7.holds Tryd.pinned (.plain (OpenSpec.ofChange modulusInvSpec)) modulusInvCard

/-- THE TIED CARD OF 'reliquarylaw02.ModulusPowers'. -/
def modulusPowersCard : Claim7 := { stood := { row := modulusPowersRow, standIns := [], harness := (true, "86661157f5455ae8e9cf402f716ce3821f498f8349cdea66629d741f6dec99ec"), looks := false }, kinds := [], alts := [], laidByText := true, laidKinds := [.data], laidTests := true, laidLooks := .later }
def ModulusPowersCardSaid : Prop := Claim7.holds Tryd.pinned (.plain (OpenSpec.ofChange modulusPowersSpec)) modulusPowersCard

/-- THE SECOND FORM's CARD OF 'reliquarylaw02.ModulusNone'. -/
def modulusNoneUptoCard : Claim7 := { stood := { row := modulusNoneUptoRow, standIns := [], harness := (true, "86661157f5455ae8e9cf402f716ce3821f498f8349cdea66629d741f6dec99ec"), looks := false }, kinds := [], alts := [], laidByText := true, laidKinds := [.data], laidTests := true, laidLooks := .later }
def ModulusNoneUptoCardSaid : Prop := Claim7.holds Tryd.pinned (.plain (OpenSpec.upto modulusNoneSpec)) modulusNoneUptoCard

/-- THE SECOND FORM's CARD OF 'reliquarylaw02.ModulusRing'. -/
def modulusRingUptoCard : Claim7 := { stood := { row := modulusRingUptoRow, standIns := [], harness := (true, "86661157f5455ae8e9cf402f716ce3821f498f8349cdea66629d741f6dec99ec"), looks := false }, kinds := [], alts := [], laidByText := true, laidKinds := [.data], laidTests := true, laidLooks := .later }
def ModulusRingUptoCardSaid : Prop := Claim7.holds Tryd.pinned (.plain (OpenSpec.upto modulusRingSpec)) modulusRingUptoCard

/-- THE SECOND FORM's CARD OF 'reliquarylaw02.ModulusInv'. -/
def modulusInvUptoCard : Claim7 := { stood := { row := modulusInvUptoRow, standIns := [], harness := (true, "86661157f5455ae8e9cf402f716ce3821f498f8349cdea66629d741f6dec99ec"), looks := false }, kinds := [], alts := [], laidByText := true, laidKinds := [.data], laidTests := true, laidLooks := .later }
def ModulusInvUptoCardSaid : Prop := Claim7.holds Tryd.pinned (.plain (OpenSpec.upto modulusInvSpec)) modulusInvUptoCard

/-- THE SECOND FORM's CARD OF 'reliquarylaw02.ModulusPowers'. -/
def modulusPowersUptoCard : Claim7 := { stood := { row := modulusPowersUptoRow, standIns := [], harness := (true, "86661157f5455ae8e9cf402f716ce3821f498f8349cdea66629d741f6dec99ec"), looks := false }, kinds := [], alts := [], laidByText := true, laidKinds := [.data], laidTests := true, laidLooks := .later }
def ModulusPowersUptoCardSaid : Prop := Claim7.holds Tryd.pinned (.plain (OpenSpec.upto modulusPowersSpec)) modulusPowersUptoCard
end Rows
end Go.Proofs.YtbbocdamhkkiiaaDoor
