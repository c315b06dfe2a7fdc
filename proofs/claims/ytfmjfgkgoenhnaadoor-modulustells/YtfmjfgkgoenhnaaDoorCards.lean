/-
  DERIVED. GIVEN WITH THE SEED: THE CARDS: each row of YtfmjfgkgoenhnaaDoorRows.lean that lists a variable, with what it lists TIED to the program's text (the seventh form; the later family's looks); each row that meets fmt, with fmt's text TOLD by the authors' own Lean function (tested against real Go, not proved from fmt's source: count such statements apart). THE CARD IS WHAT COUNTS. Prove the row's statement (the work); the ties are given (YtfmjfgkgoenhnaaDoorTie.lean); close each card by the builder's one call (the guide's Derived/Test/ToyasCard.lean, 'card_holds'). Laid BY PROGRAM, IN A SANDBOX (cutbox-door.mjs). By AI agents, Wed Nov 11 2026. No macro, syntax, notation, axiom, sorry.
-/
import Derived.Test.YtfmjfgkgoenhnaaDoorRows
import GoSem.ClaimSeven
namespace Go.Proofs.YtfmjfgkgoenhnaaDoor
namespace Rows

/-- THE TIED CARD OF 'reliquarylaw02.ModulusTells'. -/
def modulusTellsCard : Claim7 := { stood := { row := modulusTellsRow, standIns := [], harness := (true, "3e762d628b02a3b81188e183ba3c018cb34ab4edda1e6dd09ade901fc86d0117"), looks := false }, kinds := [], alts := [], laidByText := true, laidKinds := [.data], laidTests := true, laidLooks := .later }
def ModulusTellsCardSaid : Prop := Claim7.holds Tryd.pinned (.plain (OpenSpec.ofChange modulusTellsSpec)) modulusTellsCard

/-- THE SECOND FORM's CARD OF 'reliquarylaw02.ModulusTells'. -/
def modulusTellsUptoCard : Claim7 := { stood := { row := modulusTellsUptoRow, standIns := [], harness := (true, "3e762d628b02a3b81188e183ba3c018cb34ab4edda1e6dd09ade901fc86d0117"), looks := false }, kinds := [], alts := [], laidByText := true, laidKinds := [.data], laidTests := true, laidLooks := .later }
def ModulusTellsUptoCardSaid : Prop := Claim7.holds Tryd.pinned (.plain (OpenSpec.upto modulusTellsSpec)) modulusTellsUptoCard
end Rows
end Go.Proofs.YtfmjfgkgoenhnaaDoor
