/-
  NARROWER THAN 'FOR EVERY INPUT', by the rows' own cells (each row's printed sentence says how): CurveFirst: laid · CurveSecond: laid · CurveGroup1: laid · CurveGroup2: laid · CurveTimes: laid · CurveSums: laid.
  DERIVED. THE GIVEN ROWS OF THIS SEAT. 6 by the template 'for every input the law returns true; each argument reads behind the call as it read before'; 0 by the template 'total and deterministic' (their statements: YtaomlijondiaoaaGreatDoorTotals.lean).
  GIVEN WITH THE SEED: the statements are not yours to turn. If you find one false, say at which input.
  Laid BY PROGRAM, IN A SANDBOX (cutbox-rows.mjs): the forced cells as the released guide's own fill.sh prints them over the translation a539a6780da6f776… (all of the seat's roots in one cut). By AI agents, Wed Nov 11 2026. No macro, syntax, notation, axiom, sorry.
-/
import Derived.Test.YtaomlijondiaoaaGreatDoorChecked
import GoSem.Claim
import GoSem.ClaimJoined
import GoSem.ClaimMapViews
import Derived.JoinedTies
import Derived.KernelRfl
namespace Go.Proofs.YtaomlijondiaoaaGreatDoor
/- THE CELL 'sum', in the pinned program and in every row, IS THE sha256 OF THE DUMP (.gsa) THAT YtaomlijondiaoaaGreatDoorProg.lean LOADS. Nothing in Lean hashes anything: it is a label: what it is worth is what the hold of that sum in a sandbox is worth. -/
noncomputable def Tryz.pinned : Pinned := { name := "ytaomlijondiaoaagreatdoor", sum := "a539a6780da6f7763077d7e4cbc1d8e5fbcc1f4fbda0e40ace9803da0b04a39d", checked := Tryz.checked }
namespace Rows
def none {H : Type} : Left H := { results := [], args := [] }

/- WHAT THE LISTED PACKAGE-LEVEL VARIABLES READ AS WHEN THE CALL BEGINS. Each datum BY PROGRAM (the guide's laid-datum.mjs) off the statement by which the dump's own 'gosem.cut.vars' lays the variable. In a bare row this is a premise. The card (YtaomlijondiaoaaGreatDoorCards.lean) ties it to the program's text. -/
def laid_math_bits_deBruijn64tab {H : Type} : DataW H := .agg [.lit (.int .u8 0), .lit (.int .u8 1), .lit (.int .u8 56), .lit (.int .u8 2), .lit (.int .u8 57), .lit (.int .u8 49), .lit (.int .u8 28), .lit (.int .u8 3), .lit (.int .u8 61), .lit (.int .u8 58), .lit (.int .u8 42), .lit (.int .u8 50), .lit (.int .u8 38), .lit (.int .u8 29), .lit (.int .u8 17), .lit (.int .u8 4), .lit (.int .u8 62), .lit (.int .u8 47), .lit (.int .u8 59), .lit (.int .u8 36), .lit (.int .u8 45), .lit (.int .u8 43), .lit (.int .u8 51), .lit (.int .u8 22), .lit (.int .u8 53), .lit (.int .u8 39), .lit (.int .u8 33), .lit (.int .u8 30), .lit (.int .u8 24), .lit (.int .u8 18), .lit (.int .u8 12), .lit (.int .u8 5), .lit (.int .u8 63), .lit (.int .u8 55), .lit (.int .u8 48), .lit (.int .u8 27), .lit (.int .u8 60), .lit (.int .u8 41), .lit (.int .u8 37), .lit (.int .u8 16), .lit (.int .u8 46), .lit (.int .u8 35), .lit (.int .u8 44), .lit (.int .u8 21), .lit (.int .u8 52), .lit (.int .u8 32), .lit (.int .u8 23), .lit (.int .u8 11), .lit (.int .u8 54), .lit (.int .u8 26), .lit (.int .u8 40), .lit (.int .u8 15), .lit (.int .u8 34), .lit (.int .u8 20), .lit (.int .u8 31), .lit (.int .u8 10), .lit (.int .u8 25), .lit (.int .u8 14), .lit (.int .u8 19), .lit (.int .u8 9), .lit (.int .u8 13), .lit (.int .u8 8), .lit (.int .u8 7), .lit (.int .u8 6)]

/-- 'reliquarylaw04.CurveFirst': WHATEVER THE INPUT: true; the input reads as it did. -/
def curveFirstSpec : ChangeSpec := { name := "curveFirst", fn := fun _ => fun
  | [d1, d2, d3] => { results := [.lit (.bool true)], args := [d1, d2, d3] }
  | _ => none }
def curveFirstRow : OpenClaim := { program := "ytaomlijondiaoaagreatdoor", sum := "a539a6780da6f7763077d7e4cbc1d8e5fbcc1f4fbda0e40ace9803da0b04a39d", func := "reliquary/reliquarylaw04.CurveFirst", spec := "curveFirst", inPlace := ["math/bits.Add64", "math/bits.Sub64"], unfollowed := true, recurses := true, named := ["math/bits.divideError", "math/bits.overflowError", "math/bits.deBruijn64tab"], apart := false, laid := [("math/bits.deBruijn64tab", laid_math_bits_deBruijn64tab)] }
def CurveFirstSaid : Prop := curveFirstRow.holds Tryz.pinned (OpenSpec.ofChange curveFirstSpec)

/-- ITS FALSE NEIGHBOUR: 'it returns false'. Refute it at one input. -/
def curveFirstWrong : ChangeSpec := { name := "curveFirst", fn := fun _ => fun
  | [d1, d2, d3] => { results := [.lit (.bool false)], args := [d1, d2, d3] }
  | _ => none }
def CurveFirstWrongFalsely : Prop := curveFirstRow.holds Tryz.pinned (OpenSpec.ofChange curveFirstWrong)

/-- 'reliquarylaw04.CurveSecond': WHATEVER THE INPUT: true; the input reads as it did. -/
def curveSecondSpec : ChangeSpec := { name := "curveSecond", fn := fun _ => fun
  | [d1, d2, d3] => { results := [.lit (.bool true)], args := [d1, d2, d3] }
  | _ => none }
def curveSecondRow : OpenClaim := { program := "ytaomlijondiaoaagreatdoor", sum := "a539a6780da6f7763077d7e4cbc1d8e5fbcc1f4fbda0e40ace9803da0b04a39d", func := "reliquary/reliquarylaw04.CurveSecond", spec := "curveSecond", inPlace := ["math/bits.Add64", "math/bits.Sub64"], unfollowed := true, recurses := true, named := ["math/bits.divideError", "math/bits.overflowError", "math/bits.deBruijn64tab"], apart := false, laid := [("math/bits.deBruijn64tab", laid_math_bits_deBruijn64tab)] }
def CurveSecondSaid : Prop := curveSecondRow.holds Tryz.pinned (OpenSpec.ofChange curveSecondSpec)

/-- ITS FALSE NEIGHBOUR: 'it returns false'. Refute it at one input. -/
def curveSecondWrong : ChangeSpec := { name := "curveSecond", fn := fun _ => fun
  | [d1, d2, d3] => { results := [.lit (.bool false)], args := [d1, d2, d3] }
  | _ => none }
def CurveSecondWrongFalsely : Prop := curveSecondRow.holds Tryz.pinned (OpenSpec.ofChange curveSecondWrong)

/-- 'reliquarylaw04.CurveGroup1': WHATEVER THE INPUT: true; the input reads as it did. -/
def curveGroup1Spec : ChangeSpec := { name := "curveGroup1", fn := fun _ => fun
  | [d1, d2, d3] => { results := [.lit (.bool true)], args := [d1, d2, d3] }
  | _ => none }
def curveGroup1Row : OpenClaim := { program := "ytaomlijondiaoaagreatdoor", sum := "a539a6780da6f7763077d7e4cbc1d8e5fbcc1f4fbda0e40ace9803da0b04a39d", func := "reliquary/reliquarylaw04.CurveGroup1", spec := "curveGroup1", inPlace := ["math/bits.Sub64", "math/bits.Add64"], unfollowed := true, recurses := true, named := ["math/bits.divideError", "math/bits.overflowError", "math/bits.deBruijn64tab"], apart := false, laid := [("math/bits.deBruijn64tab", laid_math_bits_deBruijn64tab)] }
def CurveGroup1Said : Prop := curveGroup1Row.holds Tryz.pinned (OpenSpec.ofChange curveGroup1Spec)

/-- ITS FALSE NEIGHBOUR: 'it returns false'. Refute it at one input. -/
def curveGroup1Wrong : ChangeSpec := { name := "curveGroup1", fn := fun _ => fun
  | [d1, d2, d3] => { results := [.lit (.bool false)], args := [d1, d2, d3] }
  | _ => none }
def CurveGroup1WrongFalsely : Prop := curveGroup1Row.holds Tryz.pinned (OpenSpec.ofChange curveGroup1Wrong)

/-- 'reliquarylaw04.CurveGroup2': WHATEVER THE INPUT: true; the input reads as it did. -/
def curveGroup2Spec : ChangeSpec := { name := "curveGroup2", fn := fun _ => fun
  | [d1, d2, d3] => { results := [.lit (.bool true)], args := [d1, d2, d3] }
  | _ => none }
def curveGroup2Row : OpenClaim := { program := "ytaomlijondiaoaagreatdoor", sum := "a539a6780da6f7763077d7e4cbc1d8e5fbcc1f4fbda0e40ace9803da0b04a39d", func := "reliquary/reliquarylaw04.CurveGroup2", spec := "curveGroup2", inPlace := ["math/bits.Sub64", "math/bits.Add64"], unfollowed := true, recurses := true, named := ["math/bits.divideError", "math/bits.overflowError", "math/bits.deBruijn64tab"], apart := false, laid := [("math/bits.deBruijn64tab", laid_math_bits_deBruijn64tab)] }
def CurveGroup2Said : Prop := curveGroup2Row.holds Tryz.pinned (OpenSpec.ofChange curveGroup2Spec)

/-- ITS FALSE NEIGHBOUR: 'it returns false'. Refute it at one input. -/
def curveGroup2Wrong : ChangeSpec := { name := "curveGroup2", fn := fun _ => fun
  | [d1, d2, d3] => { results := [.lit (.bool false)], args := [d1, d2, d3] }
  | _ => none }
def CurveGroup2WrongFalsely : Prop := curveGroup2Row.holds Tryz.pinned (OpenSpec.ofChange curveGroup2Wrong)

/-- 'reliquarylaw04.CurveTimes': WHATEVER THE INPUT: true; the input reads as it did. -/
def curveTimesSpec : ChangeSpec := { name := "curveTimes", fn := fun _ => fun
  | [d1, d2, d3, d4] => { results := [.lit (.bool true)], args := [d1, d2, d3, d4] }
  | _ => none }
def curveTimesRow : OpenClaim := { program := "ytaomlijondiaoaagreatdoor", sum := "a539a6780da6f7763077d7e4cbc1d8e5fbcc1f4fbda0e40ace9803da0b04a39d", func := "reliquary/reliquarylaw04.CurveTimes", spec := "curveTimes", inPlace := ["math/bits.Sub64", "math/bits.Add64"], unfollowed := true, recurses := true, named := ["math/bits.divideError", "math/bits.overflowError", "math/bits.deBruijn64tab"], apart := false, laid := [("math/bits.deBruijn64tab", laid_math_bits_deBruijn64tab)] }
def CurveTimesSaid : Prop := curveTimesRow.holds Tryz.pinned (OpenSpec.ofChange curveTimesSpec)

/-- ITS FALSE NEIGHBOUR: 'it returns false'. Refute it at one input. -/
def curveTimesWrong : ChangeSpec := { name := "curveTimes", fn := fun _ => fun
  | [d1, d2, d3, d4] => { results := [.lit (.bool false)], args := [d1, d2, d3, d4] }
  | _ => none }
def CurveTimesWrongFalsely : Prop := curveTimesRow.holds Tryz.pinned (OpenSpec.ofChange curveTimesWrong)

/-- 'reliquarylaw04.CurveSums': WHATEVER THE INPUT: true; the input reads as it did. -/
def curveSumsSpec : ChangeSpec := { name := "curveSums", fn := fun _ => fun
  | [d1, d2, d3] => { results := [.lit (.bool true)], args := [d1, d2, d3] }
  | _ => none }
def curveSumsRow : OpenClaim := { program := "ytaomlijondiaoaagreatdoor", sum := "a539a6780da6f7763077d7e4cbc1d8e5fbcc1f4fbda0e40ace9803da0b04a39d", func := "reliquary/reliquarylaw04.CurveSums", spec := "curveSums", inPlace := ["math/bits.Sub64", "math/bits.Add64"], unfollowed := true, recurses := true, named := ["math/bits.divideError", "math/bits.overflowError", "math/bits.deBruijn64tab"], apart := false, laid := [("math/bits.deBruijn64tab", laid_math_bits_deBruijn64tab)] }
def CurveSumsSaid : Prop := curveSumsRow.holds Tryz.pinned (OpenSpec.ofChange curveSumsSpec)

/-- ITS FALSE NEIGHBOUR: 'it returns false'. Refute it at one input. -/
def curveSumsWrong : ChangeSpec := { name := "curveSums", fn := fun _ => fun
  | [d1, d2, d3] => { results := [.lit (.bool false)], args := [d1, d2, d3] }
  | _ => none }
def CurveSumsWrongFalsely : Prop := curveSumsRow.holds Tryz.pinned (OpenSpec.ofChange curveSumsWrong)

/- THE SECOND FORM. 'bulk': how many values and letters a reading holds, each counted each time it is reached (what is shared counts as often as it is met; a slice's spare places count too). A statement '..UptoSaid' is the law's where the arguments, and the package variables that the reading takes, are together of bulk at most 1048576: NARROWER than '..Said'. Prove '..Said' where nothing that the law and all that it calls make is longer than what came in: it says more and counts as full. Else prove '..UptoSaid'. A law counts once. -/
mutual
def uptoBulk {H : Type} : DataW H → Nat
  | .lit (.string bytes) => bytes.length + 1
  | .lit _ => 1
  | .nil => 1
  | .ptr d => uptoBulk d + 1
  | .slice elems spare => uptoBulkAll elems + uptoBulkAll spare + 1
  | .agg parts => uptoBulkAll parts + 1
  | .iface _ d => uptoBulk d + 1
  | .map entries => uptoBulkEntries entries + 1
  | .held _ => 1
def uptoBulkAll {H : Type} : List (DataW H) → Nat
  | [] => 0
  | d :: r => uptoBulk d + uptoBulkAll r
def uptoBulkEntries {H : Type} : List (Lit × DataW H) → Nat
  | [] => 0
  | x :: r => uptoBulkEntry x + uptoBulkEntries r
def uptoBulkEntry {H : Type} : Lit × DataW H → Nat
  | (.string bytes, d) => bytes.length + uptoBulk d + 1
  | (_, d) => uptoBulk d + 1
 end
def uptoSmall : (H : Type) → List (DataW H) → Bool := fun _ ds => decide (uptoBulkAll ds ≤ 1048576)
def OpenSpec.upto (s : _root_.Go.ChangeSpec) : _root_.Go.OpenSpec := { _root_.Go.OpenSpec.ofChange s with cond := some uptoSmall }

/-- 'reliquarylaw04.CurveFirst', WHERE WHAT IT READS IS OF BULK AT MOST 1048576: true; the input reads as it did. -/
def curveFirstUptoRow : OpenClaim := { program := "ytaomlijondiaoaagreatdoor", sum := "a539a6780da6f7763077d7e4cbc1d8e5fbcc1f4fbda0e40ace9803da0b04a39d", func := "reliquary/reliquarylaw04.CurveFirst", spec := "curveFirst", inPlace := ["math/bits.Add64", "math/bits.Sub64"], unfollowed := true, recurses := true, named := ["math/bits.divideError", "math/bits.overflowError", "math/bits.deBruijn64tab"], apart := false, laid := [("math/bits.deBruijn64tab", laid_math_bits_deBruijn64tab)], narrowed := true }
def CurveFirstUptoSaid : Prop := curveFirstUptoRow.holds Tryz.pinned (OpenSpec.upto curveFirstSpec)

/-- 'reliquarylaw04.CurveSecond', WHERE WHAT IT READS IS OF BULK AT MOST 1048576: true; the input reads as it did. -/
def curveSecondUptoRow : OpenClaim := { program := "ytaomlijondiaoaagreatdoor", sum := "a539a6780da6f7763077d7e4cbc1d8e5fbcc1f4fbda0e40ace9803da0b04a39d", func := "reliquary/reliquarylaw04.CurveSecond", spec := "curveSecond", inPlace := ["math/bits.Add64", "math/bits.Sub64"], unfollowed := true, recurses := true, named := ["math/bits.divideError", "math/bits.overflowError", "math/bits.deBruijn64tab"], apart := false, laid := [("math/bits.deBruijn64tab", laid_math_bits_deBruijn64tab)], narrowed := true }
def CurveSecondUptoSaid : Prop := curveSecondUptoRow.holds Tryz.pinned (OpenSpec.upto curveSecondSpec)

/-- 'reliquarylaw04.CurveGroup1', WHERE WHAT IT READS IS OF BULK AT MOST 1048576: true; the input reads as it did. -/
def curveGroup1UptoRow : OpenClaim := { program := "ytaomlijondiaoaagreatdoor", sum := "a539a6780da6f7763077d7e4cbc1d8e5fbcc1f4fbda0e40ace9803da0b04a39d", func := "reliquary/reliquarylaw04.CurveGroup1", spec := "curveGroup1", inPlace := ["math/bits.Sub64", "math/bits.Add64"], unfollowed := true, recurses := true, named := ["math/bits.divideError", "math/bits.overflowError", "math/bits.deBruijn64tab"], apart := false, laid := [("math/bits.deBruijn64tab", laid_math_bits_deBruijn64tab)], narrowed := true }
def CurveGroup1UptoSaid : Prop := curveGroup1UptoRow.holds Tryz.pinned (OpenSpec.upto curveGroup1Spec)

/-- 'reliquarylaw04.CurveGroup2', WHERE WHAT IT READS IS OF BULK AT MOST 1048576: true; the input reads as it did. -/
def curveGroup2UptoRow : OpenClaim := { program := "ytaomlijondiaoaagreatdoor", sum := "a539a6780da6f7763077d7e4cbc1d8e5fbcc1f4fbda0e40ace9803da0b04a39d", func := "reliquary/reliquarylaw04.CurveGroup2", spec := "curveGroup2", inPlace := ["math/bits.Sub64", "math/bits.Add64"], unfollowed := true, recurses := true, named := ["math/bits.divideError", "math/bits.overflowError", "math/bits.deBruijn64tab"], apart := false, laid := [("math/bits.deBruijn64tab", laid_math_bits_deBruijn64tab)], narrowed := true }
def CurveGroup2UptoSaid : Prop := curveGroup2UptoRow.holds Tryz.pinned (OpenSpec.upto curveGroup2Spec)

/-- 'reliquarylaw04.CurveTimes', WHERE WHAT IT READS IS OF BULK AT MOST 1048576: true; the input reads as it did. -/
def curveTimesUptoRow : OpenClaim := { program := "ytaomlijondiaoaagreatdoor", sum := "a539a6780da6f7763077d7e4cbc1d8e5fbcc1f4fbda0e40ace9803da0b04a39d", func := "reliquary/reliquarylaw04.CurveTimes", spec := "curveTimes", inPlace := ["math/bits.Sub64", "math/bits.Add64"], unfollowed := true, recurses := true, named := ["math/bits.divideError", "math/bits.overflowError", "math/bits.deBruijn64tab"], apart := false, laid := [("math/bits.deBruijn64tab", laid_math_bits_deBruijn64tab)], narrowed := true }
def CurveTimesUptoSaid : Prop := curveTimesUptoRow.holds Tryz.pinned (OpenSpec.upto curveTimesSpec)

/-- 'reliquarylaw04.CurveSums', WHERE WHAT IT READS IS OF BULK AT MOST 1048576: true; the input reads as it did. -/
def curveSumsUptoRow : OpenClaim := { program := "ytaomlijondiaoaagreatdoor", sum := "a539a6780da6f7763077d7e4cbc1d8e5fbcc1f4fbda0e40ace9803da0b04a39d", func := "reliquary/reliquarylaw04.CurveSums", spec := "curveSums", inPlace := ["math/bits.Sub64", "math/bits.Add64"], unfollowed := true, recurses := true, named := ["math/bits.divideError", "math/bits.overflowError", "math/bits.deBruijn64tab"], apart := false, laid := [("math/bits.deBruijn64tab", laid_math_bits_deBruijn64tab)], narrowed := true }
def CurveSumsUptoSaid : Prop := curveSumsUptoRow.holds Tryz.pinned (OpenSpec.upto curveSumsSpec)

end Rows
end Go.Proofs.YtaomlijondiaoaaGreatDoor
