/-
  DERIVED. GIVEN WITH THE SEED: THE CARDS: each row of YtjadelfdhhjkdaaGreatDoorRows.lean that lists a variable, with what it lists TIED to the program's text (the seventh form; the later family's looks); each row that meets fmt, with fmt's text TOLD by the authors' own Lean function (tested against real Go, not proved from fmt's source: count such statements apart). THE CARD IS WHAT COUNTS. Prove the row's statement (the work); the ties are given (YtjadelfdhhjkdaaGreatDoorTie.lean); close each card by the builder's one call (the guide's Derived/Test/ToyasCard.lean, 'card_holds'). Laid BY PROGRAM, IN A SANDBOX (cutbox-door.mjs). By AI agents, Wed Nov 11 2026. No macro, syntax, notation, axiom, sorry.
-/
import Derived.Test.YtjadelfdhhjkdaaGreatDoorRows
import GoSem.ClaimSeven
namespace Go.Proofs.YtjadelfdhhjkdaaGreatDoor
namespace Rows

/-- THE TIED CARD OF 'reliquarylaw17.BallotNil'. -/
def ballotNilCard : Claim7 := { stood := { row := ballotNilRow, standIns := [], harness := (true, "f45897074e30598df46d1dc8ce94ba3d8a94a57239329eb70b4260e8a656e338"), looks := false }, kinds := [], alts := [], laidByText := true, laidKinds := [.data, .data, .data], laidTests := true, laidLooks := .later }
def BallotNilCardSaid : Prop := Claim7.holds Tryz.pinned (.plain (OpenSpec.ofChange ballotNilSpec)) ballotNilCard

/-- THE TIED CARD OF 'reliquarylaw17.BallotKnown'. -/
def ballotKnownCard : Claim7 := { stood := { row := ballotKnownRow, standIns := [], harness := (true, "f45897074e30598df46d1dc8ce94ba3d8a94a57239329eb70b4260e8a656e338"), looks := false }, kinds := [], alts := [], laidByText := true, laidKinds := [.data, .data, .data], laidTests := true, laidLooks := .later }
def BallotKnownCardSaid : Prop := Claim7.holds Tryz.pinned (.plain (OpenSpec.ofChange ballotKnownSpec)) ballotKnownCard

/-- THE SECOND FORM's CARD OF 'reliquarylaw17.BallotNil'. -/
def ballotNilUptoCard : Claim7 := { stood := { row := ballotNilUptoRow, standIns := [], harness := (true, "f45897074e30598df46d1dc8ce94ba3d8a94a57239329eb70b4260e8a656e338"), looks := false }, kinds := [], alts := [], laidByText := true, laidKinds := [.data, .data, .data], laidTests := true, laidLooks := .later }
def BallotNilUptoCardSaid : Prop := Claim7.holds Tryz.pinned (.plain (OpenSpec.upto ballotNilSpec)) ballotNilUptoCard

/-- THE SECOND FORM's CARD OF 'reliquarylaw17.BallotKnown'. -/
def ballotKnownUptoCard : Claim7 := { stood := { row := ballotKnownUptoRow, standIns := [], harness := (true, "f45897074e30598df46d1dc8ce94ba3d8a94a57239329eb70b4260e8a656e338"), looks := false }, kinds := [], alts := [], laidByText := true, laidKinds := [.data, .data, .data], laidTests := true, laidLooks := .later }
def BallotKnownUptoCardSaid : Prop := Claim7.holds Tryz.pinned (.plain (OpenSpec.upto ballotKnownSpec)) ballotKnownUptoCard
end Rows
end Go.Proofs.YtjadelfdhhjkdaaGreatDoor
