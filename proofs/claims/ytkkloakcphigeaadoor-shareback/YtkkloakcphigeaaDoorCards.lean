/-
  DERIVED. GIVEN WITH THE SEED: THE CARDS: each row of YtkkloakcphigeaaDoorRows.lean that lists a variable, with what it lists TIED to the program's text (the seventh form; the later family's looks); each row that meets fmt, with fmt's text TOLD by the authors' own Lean function (tested against real Go, not proved from fmt's source: count such statements apart). THE CARD IS WHAT COUNTS. Prove the row's statement (the work); the ties are given (YtkkloakcphigeaaDoorTie.lean); close each card by the builder's one call (the guide's Derived/Test/ToyasCard.lean, 'card_holds'). Laid BY PROGRAM, IN A SANDBOX (cutbox-door.mjs). By AI agents, Wed Nov 11 2026. No macro, syntax, notation, axiom, sorry.
-/
import Derived.Test.YtkkloakcphigeaaDoorRows
import GoSem.ClaimSeven
namespace Go.Proofs.YtkkloakcphigeaaDoor
namespace Rows

/-- THE TIED CARD OF 'reliquarylaw19.ShareBack'. -/
def shareBackCard : Claim7 := { stood := { row := shareBackRow, standIns := [], harness := (true, "6dedb869e206c3fffcde1de91cc7b882c7a51cd44d2fb1942bbfd41723a11b00"), looks := false }, kinds := [], alts := [], laidByText := true, laidKinds := [.data], laidTests := true, laidLooks := .later }
def ShareBackCardSaid : Prop := Claim7.holds Tryd.pinned (.plain (OpenSpec.ofChange shareBackSpec)) shareBackCard

/-- THE TIED CARD OF 'reliquarylaw19.ShareFree'. -/
def shareFreeCard : Claim7 := { stood := { row := shareFreeRow, standIns := [], harness := (true, "6dedb869e206c3fffcde1de91cc7b882c7a51cd44d2fb1942bbfd41723a11b00"), looks := false }, kinds := [], alts := [], laidByText := true, laidKinds := [.data], laidTests := true, laidLooks := .later }
def ShareFreeCardSaid : Prop := Claim7.holds Tryd.pinned (.plain (OpenSpec.ofChange shareFreeSpec)) shareFreeCard

/-- THE SECOND FORM's CARD OF 'reliquarylaw19.ShareBack'. -/
def shareBackUptoCard : Claim7 := { stood := { row := shareBackUptoRow, standIns := [], harness := (true, "6dedb869e206c3fffcde1de91cc7b882c7a51cd44d2fb1942bbfd41723a11b00"), looks := false }, kinds := [], alts := [], laidByText := true, laidKinds := [.data], laidTests := true, laidLooks := .later }
def ShareBackUptoCardSaid : Prop := Claim7.holds Tryd.pinned (.plain (OpenSpec.upto shareBackSpec)) shareBackUptoCard

/-- THE SECOND FORM's CARD OF 'reliquarylaw19.ShareFree'. -/
def shareFreeUptoCard : Claim7 := { stood := { row := shareFreeUptoRow, standIns := [], harness := (true, "6dedb869e206c3fffcde1de91cc7b882c7a51cd44d2fb1942bbfd41723a11b00"), looks := false }, kinds := [], alts := [], laidByText := true, laidKinds := [.data], laidTests := true, laidLooks := .later }
def ShareFreeUptoCardSaid : Prop := Claim7.holds Tryd.pinned (.plain (OpenSpec.upto shareFreeSpec)) shareFreeUptoCard
end Rows
end Go.Proofs.YtkkloakcphigeaaDoor
