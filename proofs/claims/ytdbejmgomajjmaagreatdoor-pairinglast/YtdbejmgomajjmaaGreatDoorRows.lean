/-
  NARROWER THAN 'FOR EVERY INPUT', by the rows' own cells (each row's printed sentence says how): PairingTells: laid · PairingBilinear: laid · PairingOrder: laid · PairingProducts: laid · PairingLast: laid · PairingKnown: laid.
  DERIVED. THE GIVEN ROWS OF THIS SEAT. 6 by the template 'for every input the law returns true; each argument reads behind the call as it read before'; 0 by the template 'total and deterministic' (their statements: YtdbejmgomajjmaaGreatDoorTotals.lean).
  GIVEN WITH THE SEED: the statements are not yours to turn. If you find one false, say at which input.
  Laid BY PROGRAM, IN A SANDBOX (cutbox-rows.mjs): the forced cells as the released guide's own fill.sh prints them over the translation 2d6840cf87248bc3… (all of the seat's roots in one cut). By AI agents, Wed Nov 11 2026. No macro, syntax, notation, axiom, sorry.
-/
import Derived.Test.YtdbejmgomajjmaaGreatDoorChecked
import GoSem.Claim
import GoSem.ClaimJoined
import GoSem.ClaimMapViews
import Derived.JoinedTies
import Derived.KernelRfl
namespace Go.Proofs.YtdbejmgomajjmaaGreatDoor
/- THE CELL 'sum', in the pinned program and in every row, IS THE sha256 OF THE DUMP (.gsa) THAT YtdbejmgomajjmaaGreatDoorProg.lean LOADS. Nothing in Lean hashes anything: it is a label: what it is worth is what the hold of that sum in a sandbox is worth. -/
noncomputable def Tryz.pinned : Pinned := { name := "ytdbejmgomajjmaagreatdoor", sum := "2d6840cf87248bc332767202cd5e7017c96e86081a27ff188c6b253de486d933", checked := Tryz.checked }
namespace Rows
def none {H : Type} : Left H := { results := [], args := [] }

/- WHAT THE LISTED PACKAGE-LEVEL VARIABLES READ AS WHEN THE CALL BEGINS. Each datum BY PROGRAM (the guide's laid-datum.mjs) off the statement by which the dump's own 'gosem.cut.vars' lays the variable. In a bare row this is a premise. The card (YtdbejmgomajjmaaGreatDoorCards.lean) ties it to the program's text. -/
def laid_math_bits_deBruijn64tab {H : Type} : DataW H := .agg [.lit (.int .u8 0), .lit (.int .u8 1), .lit (.int .u8 56), .lit (.int .u8 2), .lit (.int .u8 57), .lit (.int .u8 49), .lit (.int .u8 28), .lit (.int .u8 3), .lit (.int .u8 61), .lit (.int .u8 58), .lit (.int .u8 42), .lit (.int .u8 50), .lit (.int .u8 38), .lit (.int .u8 29), .lit (.int .u8 17), .lit (.int .u8 4), .lit (.int .u8 62), .lit (.int .u8 47), .lit (.int .u8 59), .lit (.int .u8 36), .lit (.int .u8 45), .lit (.int .u8 43), .lit (.int .u8 51), .lit (.int .u8 22), .lit (.int .u8 53), .lit (.int .u8 39), .lit (.int .u8 33), .lit (.int .u8 30), .lit (.int .u8 24), .lit (.int .u8 18), .lit (.int .u8 12), .lit (.int .u8 5), .lit (.int .u8 63), .lit (.int .u8 55), .lit (.int .u8 48), .lit (.int .u8 27), .lit (.int .u8 60), .lit (.int .u8 41), .lit (.int .u8 37), .lit (.int .u8 16), .lit (.int .u8 46), .lit (.int .u8 35), .lit (.int .u8 44), .lit (.int .u8 21), .lit (.int .u8 52), .lit (.int .u8 32), .lit (.int .u8 23), .lit (.int .u8 11), .lit (.int .u8 54), .lit (.int .u8 26), .lit (.int .u8 40), .lit (.int .u8 15), .lit (.int .u8 34), .lit (.int .u8 20), .lit (.int .u8 31), .lit (.int .u8 10), .lit (.int .u8 25), .lit (.int .u8 14), .lit (.int .u8 19), .lit (.int .u8 9), .lit (.int .u8 13), .lit (.int .u8 8), .lit (.int .u8 7), .lit (.int .u8 6)]

/-- 'reliquarylaw06.PairingTells': WHATEVER THE INPUT: true; the input reads as it did. -/
def pairingTellsSpec : ChangeSpec := { name := "pairingTells", fn := fun _ => fun
  | [d1, d2, d3] => { results := [.lit (.bool true)], args := [d1, d2, d3] }
  | _ => none }
def pairingTellsRow : OpenClaim := { program := "ytdbejmgomajjmaagreatdoor", sum := "2d6840cf87248bc332767202cd5e7017c96e86081a27ff188c6b253de486d933", func := "reliquary/reliquarylaw06.PairingTells", spec := "pairingTells", inPlace := ["math/bits.Sub64", "math/bits.Add64"], unfollowed := true, recurses := true, named := ["math/bits.divideError", "math/bits.overflowError", "math/bits.deBruijn64tab"], apart := false, laid := [("math/bits.deBruijn64tab", laid_math_bits_deBruijn64tab)] }
def PairingTellsSaid : Prop := pairingTellsRow.holds Tryz.pinned (OpenSpec.ofChange pairingTellsSpec)

/-- ITS FALSE NEIGHBOUR: 'it returns false'. Refute it at one input. -/
def pairingTellsWrong : ChangeSpec := { name := "pairingTells", fn := fun _ => fun
  | [d1, d2, d3] => { results := [.lit (.bool false)], args := [d1, d2, d3] }
  | _ => none }
def PairingTellsWrongFalsely : Prop := pairingTellsRow.holds Tryz.pinned (OpenSpec.ofChange pairingTellsWrong)

/-- 'reliquarylaw06.PairingBilinear': WHATEVER THE INPUT: true; the input reads as it did. -/
def pairingBilinearSpec : ChangeSpec := { name := "pairingBilinear", fn := fun _ => fun
  | [d1, d2, d3, d4, d5, d6] => { results := [.lit (.bool true)], args := [d1, d2, d3, d4, d5, d6] }
  | _ => none }
def pairingBilinearRow : OpenClaim := { program := "ytdbejmgomajjmaagreatdoor", sum := "2d6840cf87248bc332767202cd5e7017c96e86081a27ff188c6b253de486d933", func := "reliquary/reliquarylaw06.PairingBilinear", spec := "pairingBilinear", inPlace := ["math/bits.Sub64", "math/bits.Add64"], unfollowed := true, recurses := true, named := ["math/bits.divideError", "math/bits.overflowError", "math/bits.deBruijn64tab"], apart := false, laid := [("math/bits.deBruijn64tab", laid_math_bits_deBruijn64tab)] }
def PairingBilinearSaid : Prop := pairingBilinearRow.holds Tryz.pinned (OpenSpec.ofChange pairingBilinearSpec)

/-- ITS FALSE NEIGHBOUR: 'it returns false'. Refute it at one input. -/
def pairingBilinearWrong : ChangeSpec := { name := "pairingBilinear", fn := fun _ => fun
  | [d1, d2, d3, d4, d5, d6] => { results := [.lit (.bool false)], args := [d1, d2, d3, d4, d5, d6] }
  | _ => none }
def PairingBilinearWrongFalsely : Prop := pairingBilinearRow.holds Tryz.pinned (OpenSpec.ofChange pairingBilinearWrong)

/-- 'reliquarylaw06.PairingOrder': WHATEVER THE INPUT: true; the input reads as it did. -/
def pairingOrderSpec : ChangeSpec := { name := "pairingOrder", fn := fun _ => fun
  | [d1, d2] => { results := [.lit (.bool true)], args := [d1, d2] }
  | _ => none }
def pairingOrderRow : OpenClaim := { program := "ytdbejmgomajjmaagreatdoor", sum := "2d6840cf87248bc332767202cd5e7017c96e86081a27ff188c6b253de486d933", func := "reliquary/reliquarylaw06.PairingOrder", spec := "pairingOrder", inPlace := ["math/bits.Sub64", "math/bits.Add64"], unfollowed := true, recurses := true, named := ["math/bits.divideError", "math/bits.overflowError", "math/bits.deBruijn64tab"], apart := false, laid := [("math/bits.deBruijn64tab", laid_math_bits_deBruijn64tab)] }
def PairingOrderSaid : Prop := pairingOrderRow.holds Tryz.pinned (OpenSpec.ofChange pairingOrderSpec)

/-- ITS FALSE NEIGHBOUR: 'it returns false'. Refute it at one input. -/
def pairingOrderWrong : ChangeSpec := { name := "pairingOrder", fn := fun _ => fun
  | [d1, d2] => { results := [.lit (.bool false)], args := [d1, d2] }
  | _ => none }
def PairingOrderWrongFalsely : Prop := pairingOrderRow.holds Tryz.pinned (OpenSpec.ofChange pairingOrderWrong)

/-- 'reliquarylaw06.PairingProducts': WHATEVER THE INPUT: true; the input reads as it did. -/
def pairingProductsSpec : ChangeSpec := { name := "pairingProducts", fn := fun _ => fun
  | [d1, d2] => { results := [.lit (.bool true)], args := [d1, d2] }
  | _ => none }
def pairingProductsRow : OpenClaim := { program := "ytdbejmgomajjmaagreatdoor", sum := "2d6840cf87248bc332767202cd5e7017c96e86081a27ff188c6b253de486d933", func := "reliquary/reliquarylaw06.PairingProducts", spec := "pairingProducts", inPlace := ["math/bits.Sub64", "math/bits.Add64"], unfollowed := true, recurses := true, named := ["math/bits.divideError", "math/bits.overflowError", "math/bits.deBruijn64tab"], apart := false, laid := [("math/bits.deBruijn64tab", laid_math_bits_deBruijn64tab)] }
def PairingProductsSaid : Prop := pairingProductsRow.holds Tryz.pinned (OpenSpec.ofChange pairingProductsSpec)

/-- ITS FALSE NEIGHBOUR: 'it returns false'. Refute it at one input. -/
def pairingProductsWrong : ChangeSpec := { name := "pairingProducts", fn := fun _ => fun
  | [d1, d2] => { results := [.lit (.bool false)], args := [d1, d2] }
  | _ => none }
def PairingProductsWrongFalsely : Prop := pairingProductsRow.holds Tryz.pinned (OpenSpec.ofChange pairingProductsWrong)

/-- 'reliquarylaw06.PairingLast': WHATEVER THE INPUT: true; the input reads as it did. -/
def pairingLastSpec : ChangeSpec := { name := "pairingLast", fn := fun _ => fun
  | [d1, d2, d3] => { results := [.lit (.bool true)], args := [d1, d2, d3] }
  | _ => none }
def pairingLastRow : OpenClaim := { program := "ytdbejmgomajjmaagreatdoor", sum := "2d6840cf87248bc332767202cd5e7017c96e86081a27ff188c6b253de486d933", func := "reliquary/reliquarylaw06.PairingLast", spec := "pairingLast", inPlace := ["math/bits.Sub64", "math/bits.Add64"], unfollowed := true, recurses := true, named := ["math/bits.divideError", "math/bits.overflowError", "math/bits.deBruijn64tab"], apart := false, laid := [("math/bits.deBruijn64tab", laid_math_bits_deBruijn64tab)] }
def PairingLastSaid : Prop := pairingLastRow.holds Tryz.pinned (OpenSpec.ofChange pairingLastSpec)

/-- ITS FALSE NEIGHBOUR: 'it returns false'. Refute it at one input. -/
def pairingLastWrong : ChangeSpec := { name := "pairingLast", fn := fun _ => fun
  | [d1, d2, d3] => { results := [.lit (.bool false)], args := [d1, d2, d3] }
  | _ => none }
def PairingLastWrongFalsely : Prop := pairingLastRow.holds Tryz.pinned (OpenSpec.ofChange pairingLastWrong)

/-- 'reliquarylaw06.PairingKnown': WHATEVER THE INPUT: true; the input reads as it did. -/
def pairingKnownSpec : ChangeSpec := { name := "pairingKnown", fn := fun _ => fun
  | [] => { results := [.lit (.bool true)], args := [] }
  | _ => none }
def pairingKnownRow : OpenClaim := { program := "ytdbejmgomajjmaagreatdoor", sum := "2d6840cf87248bc332767202cd5e7017c96e86081a27ff188c6b253de486d933", func := "reliquary/reliquarylaw06.PairingKnown", spec := "pairingKnown", inPlace := ["math/bits.Sub64", "math/bits.Add64"], unfollowed := true, recurses := true, named := ["math/bits.divideError", "math/bits.overflowError", "math/bits.deBruijn64tab"], apart := false, laid := [("math/bits.deBruijn64tab", laid_math_bits_deBruijn64tab)] }
def PairingKnownSaid : Prop := pairingKnownRow.holds Tryz.pinned (OpenSpec.ofChange pairingKnownSpec)

/-- ITS FALSE NEIGHBOUR: 'it returns false'. Refute it at one input. -/
def pairingKnownWrong : ChangeSpec := { name := "pairingKnown", fn := fun _ => fun
  | [] => { results := [.lit (.bool false)], args := [] }
  | _ => none }
def PairingKnownWrongFalsely : Prop := pairingKnownRow.holds Tryz.pinned (OpenSpec.ofChange pairingKnownWrong)

/- THE SECOND FORM. 'bulk': how many values and letters a reading holds, each counted each time it is reached (what is shared counts as often as it is met; a slice's spare places count too). A statement '..UptoSaid' is the law's where the arguments, and the package variables that the reading takes, are together of bulk at most 1048576: NARROWER than '..Said'. Prove '..Said' where nothing that the law and all that it calls make is longer than what came in: it says more and counts as full. Else prove '..UptoSaid'. A law counts once. -/
mutual
def uptoBulk {H : Type} : DataW H → Nat
  | .lit (.string bytes) => bytes.length + 1
  | .lit _ => 1
  | .nil => 1
  | .ptr d => uptoBulk d + 1
  | .slice elems spare => uptoBulkAll elems + uptoBulkAll spare + 1
  | .agg parts => uptoBulkAll parts + 1
  | .iface _ d => uptoBulk d + 1
  | .map entries => uptoBulkEntries entries + 1
  | .held _ => 1
def uptoBulkAll {H : Type} : List (DataW H) → Nat
  | [] => 0
  | d :: r => uptoBulk d + uptoBulkAll r
def uptoBulkEntries {H : Type} : List (Lit × DataW H) → Nat
  | [] => 0
  | x :: r => uptoBulkEntry x + uptoBulkEntries r
def uptoBulkEntry {H : Type} : Lit × DataW H → Nat
  | (.string bytes, d) => bytes.length + uptoBulk d + 1
  | (_, d) => uptoBulk d + 1
 end
def uptoSmall : (H : Type) → List (DataW H) → Bool := fun _ ds => decide (uptoBulkAll ds ≤ 1048576)
def OpenSpec.upto (s : _root_.Go.ChangeSpec) : _root_.Go.OpenSpec := { _root_.Go.OpenSpec.ofChange s with cond := some uptoSmall }

/-- 'reliquarylaw06.PairingTells', WHERE WHAT IT READS IS OF BULK AT MOST 1048576: true; the input reads as it did. -/
def pairingTellsUptoRow : OpenClaim := { program := "ytdbejmgomajjmaagreatdoor", sum := "2d6840cf87248bc332767202cd5e7017c96e86081a27ff188c6b253de486d933", func := "reliquary/reliquarylaw06.PairingTells", spec := "pairingTells", inPlace := ["math/bits.Sub64", "math/bits.Add64"], unfollowed := true, recurses := true, named := ["math/bits.divideError", "math/bits.overflowError", "math/bits.deBruijn64tab"], apart := false, laid := [("math/bits.deBruijn64tab", laid_math_bits_deBruijn64tab)], narrowed := true }
def PairingTellsUptoSaid : Prop := pairingTellsUptoRow.holds Tryz.pinned (OpenSpec.upto pairingTellsSpec)

/-- 'reliquarylaw06.PairingBilinear', WHERE WHAT IT READS IS OF BULK AT MOST 1048576: true; the input reads as it did. -/
def pairingBilinearUptoRow : OpenClaim := { program := "ytdbejmgomajjmaagreatdoor", sum := "2d6840cf87248bc332767202cd5e7017c96e86081a27ff188c6b253de486d933", func := "reliquary/reliquarylaw06.PairingBilinear", spec := "pairingBilinear", inPlace := ["math/bits.Sub64", "math/bits.Add64"], unfollowed := true, recurses := true, named := ["math/bits.divideError", "math/bits.overflowError", "math/bits.deBruijn64tab"], apart := false, laid := [("math/bits.deBruijn64tab", laid_math_bits_deBruijn64tab)], narrowed := true }
def PairingBilinearUptoSaid : Prop := pairingBilinearUptoRow.holds Tryz.pinned (OpenSpec.upto pairingBilinearSpec)

/-- 'reliquarylaw06.PairingOrder', WHERE WHAT IT READS IS OF BULK AT MOST 1048576: true; the input reads as it did. -/
def pairingOrderUptoRow : OpenClaim := { program := "ytdbejmgomajjmaagreatdoor", sum := "2d6840cf87248bc332767202cd5e7017c96e86081a27ff188c6b253de486d933", func := "reliquary/reliquarylaw06.PairingOrder", spec := "pairingOrder", inPlace := ["math/bits.Sub64", "math/bits.Add64"], unfollowed := true, recurses := true, named := ["math/bits.divideError", "math/bits.overflowError", "math/bits.deBruijn64tab"], apart := false, laid := [("math/bits.deBruijn64tab", laid_math_bits_deBruijn64tab)], narrowed := true }
def PairingOrderUptoSaid : Prop := pairingOrderUptoRow.holds Tryz.pinned (OpenSpec.upto pairingOrderSpec)

/-- 'reliquarylaw06.PairingProducts', WHERE WHAT IT READS IS OF BULK AT MOST 1048576: true; the input reads as it did. -/
def pairingProductsUptoRow : OpenClaim := { program := "ytdbejmgomajjmaagreatdoor", sum := "2d6840cf87248bc332767202cd5e7017c96e86081a27ff188c6b253de486d933", func := "reliquary/reliquarylaw06.PairingProducts", spec := "pairingProducts", inPlace := ["math/bits.Sub64", "math/bits.Add64"], unfollowed := true, recurses := true, named := ["math/bits.divideError", "math/bits.overflowError", "math/bits.deBruijn64tab"], apart := false, laid := [("math/bits.deBruijn64tab", laid_math_bits_deBruijn64tab)], narrowed := true }
def PairingProductsUptoSaid : Prop := pairingProductsUptoRow.holds Tryz.pinned (OpenSpec.upto pairingProductsSpec)

/-- 'reliquarylaw06.PairingLast', WHERE WHAT IT READS IS OF BULK AT MOST 1048576: true; the input reads as it did. -/
def pairingLastUptoRow : OpenClaim := { program := "ytdbejmgomajjmaagreatdoor", sum := "2d6840cf87248bc332767202cd5e7017c96e86081a27ff188c6b253de486d933", func := "reliquary/reliquarylaw06.PairingLast", spec := "pairingLast", inPlace := ["math/bits.Sub64", "math/bits.Add64"], unfollowed := true, recurses := true, named := ["math/bits.divideError", "math/bits.overflowError", "math/bits.deBruijn64tab"], apart := false, laid := [("math/bits.deBruijn64tab", laid_math_bits_deBruijn64tab)], narrowed := true }
def PairingLastUptoSaid : Prop := pairingLastUptoRow.holds Tryz.pinned (OpenSpec.upto pairingLastSpec)

/-- 'reliquarylaw06.PairingKnown', WHERE WHAT IT READS IS OF BULK AT MOST 1048576: true; the input reads as it did. -/
def pairingKnownUptoRow : OpenClaim := { program := "ytdbejmgomajjmaagreatdoor", sum := "2d6840cf87248bc332767202cd5e7017c96e86081a27ff188c6b253de486d933", func := "reliquary/reliquarylaw06.PairingKnown", spec := "pairingKnown", inPlace := ["math/bits.Sub64", "math/bits.Add64"], unfollowed := true, recurses := true, named := ["math/bits.divideError", "math/bits.overflowError", "math/bits.deBruijn64tab"], apart := false, laid := [("math/bits.deBruijn64tab", laid_math_bits_deBruijn64tab)], narrowed := true }
def PairingKnownUptoSaid : Prop := pairingKnownUptoRow.holds Tryz.pinned (OpenSpec.upto pairingKnownSpec)

end Rows
end Go.Proofs.YtdbejmgomajjmaaGreatDoor
