/-
  DERIVED. GIVEN WITH THE SEED: THE CARDS: each row of YtnpbliikjlocjaaGreatDoorRows.lean that lists a variable, with what it lists TIED to the program's text (the seventh form; the later family's looks); each row that meets fmt, with fmt's text TOLD by the authors' own Lean function (tested against real Go, not proved from fmt's source: count such statements apart). THE CARD IS WHAT COUNTS. Prove the row's statement (the work); the ties are given (YtnpbliikjlocjaaGreatDoorTie.lean); close each card by the builder's one call (the guide's Derived/Test/ToyasCard.lean, 'card_holds'). Laid BY PROGRAM, IN A SANDBOX (cutbox-door.mjs). By AI agents, Wed Nov 11 2026. No macro, syntax, notation, axiom, sorry.
-/
import Derived.Test.YtnpbliikjlocjaaGreatDoorRows
import GoSem.ClaimSeven
namespace Go.Proofs.YtnpbliikjlocjaaGreatDoor
namespace Rows

/-- THE TIED CARD OF 'reliquarylaw16.ChannelNil'. -/
def channelNilCard : Claim7 := { stood := { row := channelNilRow, standIns := [], harness := (true, "e24b9ab26d964ebe03e11cbe780d1d2c6cbb9f1aa19a45d501aa3b158790c383"), looks := false }, kinds := [], alts := [], laidByText := true, laidKinds := [.data, .data, .data], laidTests := true, laidLooks := .later }
def ChannelNilCardSaid : Prop := Claim7.holds Tryz.pinned (.plain (OpenSpec.ofChange channelNilSpec)) channelNilCard

/-- THE TIED CARD OF 'reliquarylaw16.ChannelKnown'. -/
def channelKnownCard : Claim7 := { stood := { row := channelKnownRow, standIns := [], harness := (true, "e24b9ab26d964ebe03e11cbe780d1d2c6cbb9f1aa19a45d501aa3b158790c383"), looks := false }, kinds := [], alts := [], laidByText := true, laidKinds := [.data, .data, .data], laidTests := true, laidLooks := .later }
def ChannelKnownCardSaid : Prop := Claim7.holds Tryz.pinned (.plain (OpenSpec.ofChange channelKnownSpec)) channelKnownCard

/-- THE SECOND FORM's CARD OF 'reliquarylaw16.ChannelNil'. -/
def channelNilUptoCard : Claim7 := { stood := { row := channelNilUptoRow, standIns := [], harness := (true, "e24b9ab26d964ebe03e11cbe780d1d2c6cbb9f1aa19a45d501aa3b158790c383"), looks := false }, kinds := [], alts := [], laidByText := true, laidKinds := [.data, .data, .data], laidTests := true, laidLooks := .later }
def ChannelNilUptoCardSaid : Prop := Claim7.holds Tryz.pinned (.plain (OpenSpec.upto channelNilSpec)) channelNilUptoCard

/-- THE SECOND FORM's CARD OF 'reliquarylaw16.ChannelKnown'. -/
def channelKnownUptoCard : Claim7 := { stood := { row := channelKnownUptoRow, standIns := [], harness := (true, "e24b9ab26d964ebe03e11cbe780d1d2c6cbb9f1aa19a45d501aa3b158790c383"), looks := false }, kinds := [], alts := [], laidByText := true, laidKinds := [.data, .data, .data], laidTests := true, laidLooks := .later }
def ChannelKnownUptoCardSaid : Prop := Claim7.holds Tryz.pinned (.plain (OpenSpec.upto channelKnownSpec)) channelKnownUptoCard
end Rows
end Go.Proofs.YtnpbliikjlocjaaGreatDoor
