/-
  DERIVED. GIVEN WITH THE SEED: THE CARDS: each row of YtdbejmgomajjmaaGreatDoorRows.lean that lists a variable, with what it lists TIED to the program's text (the seventh form; the later family's looks); each row that meets fmt, with fmt's text TOLD by the authors' own Lean function (tested against real Go, not proved from fmt's source: count such statements apart). THE CARD IS WHAT COUNTS. Prove the row's statement (the work); the ties are given (YtdbejmgomajjmaaGreatDoorTie.lean); close each card by the builder's one call (the guide's Derived/Test/ToyasCard.lean, 'card_holds'). Laid BY PROGRAM, IN A SANDBOX (cutbox-door.mjs). By AI agents, Wed Nov 11 2026. No macro, syntax, notation, axiom, sorry.
-/
import Derived.Test.YtdbejmgomajjmaaGreatDoorRows
import GoSem.ClaimSeven
namespace Go.Proofs.YtdbejmgomajjmaaGreatDoor
namespace Rows

/-- THE TIED CARD OF 'reliquarylaw06.PairingTells'. -/
def pairingTellsCard : Claim7 := { stood := { row := pairingTellsRow, standIns := [], harness := (true, "749236d68ab773475177692a34dc691dae64585e9f1b14abcb1d21061577f7d2"), looks := false }, kinds := [], alts := [], laidByText := true, laidKinds := [.data], laidTests := true, laidLooks := .later }
def PairingTellsCardSaid : Prop := Claim7.holds Tryz.pinned (.plain (OpenSpec.ofChange pairingTellsSpec)) pairingTellsCard

/-- THE TIED CARD OF 'reliquarylaw06.PairingBilinear'. -/
def pairingBilinearCard : Claim7 := { stood := { row := pairingBilinearRow, standIns := [], harness := (true, "749236d68ab773475177692a34dc691dae64585e9f1b14abcb1d21061577f7d2"), looks := false }, kinds := [], alts := [], laidByText := true, laidKinds := [.data], laidTests := true, laidLooks := .later }
def PairingBilinearCardSaid : Prop := Claim7.holds Tryz.pinned (.plain (OpenSpec.ofChange pairingBilinearSpec)) pairingBilinearCard

/-- THE TIED CARD OF 'reliquarylaw06.PairingOrder'. -/
def pairingOrderCard : Claim7 := { stood := { row := pairingOrderRow, standIns := [], harness := (true, "749236d68ab773475177692a34dc691dae64585e9f1b14abcb1d21061577f7d2"), looks := false }, kinds := [], alts := [], laidByText := true, laidKinds := [.data], laidTests := true, laidLooks := .later }
def PairingOrderCardSaid : Prop := Claim7.holds Tryz.pinned (.plain (OpenSpec.ofChange pairingOrderSpec)) pairingOrderCard

/-- THE TIED CARD OF 'reliquarylaw06.PairingProducts'. -/
def pairingProductsCard : Claim7 := { stood := { row := pairingProductsRow, standIns := [], harness := (true, "749236d68ab773475177692a34dc691dae64585e9f1b14abcb1d21061577f7d2"), looks := false }, kinds := [], alts := [], laidByText := true, laidKinds := [.data], laidTests := true, laidLooks := .later }
def PairingProductsCardSaid : Prop := Claim7.holds Tryz.pinned (.plain (OpenSpec.ofChange pairingProductsSpec)) pairingProductsCard

/-- THE TIED CARD OF 'reliquarylaw06.PairingLast'. -/
def pairingLastCard : Claim7 := { stood := { row := pairingLastRow, standIns := [], harness := (true, "749236d68ab773475177692a34dc691dae64585e9f1b14abcb1d21061577f7d2"), looks := false }, kinds := [], alts := [], laidByText := true, laidKinds := [.data], laidTests := true, laidLooks := .later }
def PairingLastCardSaid : Prop := Claim7.holds Tryz.pinned (.plain (OpenSpec.ofChange pairingLastSpec)) pairingLastCard

/-- THE TIED CARD OF 'reliquarylaw06.PairingKnown'. -/
def pairingKnownCard : Claim7 := { stood := { row := pairingKnownRow, standIns := [], harness := (true, "749236d68ab773475177692a34dc691dae64585e9f1b14abcb1d21061577f7d2"), looks := false }, kinds := [], alts := [], laidByText := true, laidKinds := [.data], laidTests := true, laidLooks := .later }
def PairingKnownCardSaid : Prop := Claim7.holds Tryz.pinned (.plain (OpenSpec.ofChange pairingKnownSpec)) pairingKnownCard

/-- THE SECOND FORM's CARD OF 'reliquarylaw06.PairingTells'. -/
def pairingTellsUptoCard : Claim7 := { stood := { row := pairingTellsUptoRow, standIns := [], harness := (true, "749236d68ab773475177692a34dc691dae64585e9f1b14abcb1d21061577f7d2"), looks := false }, kinds := [], alts := [], laidByText := true, laidKinds := [.data], laidTests := true, laidLooks := .later }
def PairingTellsUptoCardSaid : Prop := Claim7.holds Tryz.pinned (.plain (OpenSpec.upto pairingTellsSpec)) pairingTellsUptoCard

/-- THE SECOND FORM's CARD OF 'reliquarylaw06.PairingBilinear'. -/
def pairingBilinearUptoCard : Claim7 := { stood := { row := pairingBilinearUptoRow, standIns := [], harness := (true, "749236d68ab773475177692a34dc691dae64585e9f1b14abcb1d21061577f7d2"), looks := false }, kinds := [], alts := [], laidByText := true, laidKinds := [.data], laidTests := true, laidLooks := .later }
def PairingBilinearUptoCardSaid : Prop := Claim7.holds Tryz.pinned (.plain (OpenSpec.upto pairingBilinearSpec)) pairingBilinearUptoCard

/-- THE SECOND FORM's CARD OF 'reliquarylaw06.PairingOrder'. -/
def pairingOrderUptoCard : Claim7 := { stood := { row := pairingOrderUptoRow, standIns := [], harness := (true, "749236d68ab773475177692a34dc691dae64585e9f1b14abcb1d21061577f7d2"), looks := false }, kinds := [], alts := [], laidByText := true, laidKinds := [.data], laidTests := true, laidLooks := .later }
def PairingOrderUptoCardSaid : Prop := Claim7.holds Tryz.pinned (.plain (OpenSpec.upto pairingOrderSpec)) pairingOrderUptoCard

/-- THE SECOND FORM's CARD OF 'reliquarylaw06.PairingProducts'. -/
def pairingProductsUptoCard : Claim7 := { stood := { row := pairingProductsUptoRow, standIns := [], harness := (true, "749236d68ab773475177692a34dc691dae64585e9f1b14abcb1d21061577f7d2"), looks := false }, kinds := [], alts := [], laidByText := true, laidKinds := [.data], laidTests := true, laidLooks := .later }
def PairingProductsUptoCardSaid : Prop := Claim7.holds Tryz.pinned (.plain (OpenSpec.upto pairingProductsSpec)) pairingProductsUptoCard

/-- THE SECOND FORM's CARD OF 'reliquarylaw06.PairingLast'. -/
def pairingLastUptoCard : Claim7 := { stood := { row := pairingLastUptoRow, standIns := [], harness := (true, "749236d68ab773475177692a34dc691dae64585e9f1b14abcb1d21061577f7d2"), looks := false }, kinds := [], alts := [], laidByText := true, laidKinds := [.data], laidTests := true, laidLooks := .later }
def PairingLastUptoCardSaid : Prop := Claim7.holds Tryz.pinned (.plain (OpenSpec.upto pairingLastSpec)) pairingLastUptoCard

/-- THE SECOND FORM's CARD OF 'reliquarylaw06.PairingKnown'. -/
def pairingKnownUptoCard : Claim7 := { stood := { row := pairingKnownUptoRow, standIns := [], harness := (true, "749236d68ab773475177692a34dc691dae64585e9f1b14abcb1d21061577f7d2"), looks := false }, kinds := [], alts := [], laidByText := true, laidKinds := [.data], laidTests := true, laidLooks := .later }
def PairingKnownUptoCardSaid : Prop := Claim7.holds Tryz.pinned (.plain (OpenSpec.upto pairingKnownSpec)) pairingKnownUptoCard
end Rows
end Go.Proofs.YtdbejmgomajjmaaGreatDoor
