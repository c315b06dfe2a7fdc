/-
  NARROWER THAN 'FOR EVERY INPUT', by the rows' own cells (each row's printed sentence says how): DigestSums: laid · DigestTexts: laid · DigestScript: laid · DigestNil: laid · DigestKnown: laid · DigestPieces: laid · MacCodes: laid · MacDerives: laid · MacKnown: laid · MacBegins: laid.
  DERIVED. THE GIVEN ROWS OF THIS SEAT. 10 by the template 'for every input the law returns true; each argument reads behind the call as it read before'; 0 by the template 'total and deterministic' (their statements: YtolflfjfegngnaaDoorTotals.lean).
  GIVEN WITH THE SEED: the statements are not yours to turn. If you find one false, say at which input.
  Laid BY PROGRAM, IN A SANDBOX (cutbox-rows.mjs): the forced cells as the released guide's own fill.sh prints them over the translation a03820febbe2492a… (all of the seat's roots in one cut). By AI agents, Wed Nov 11 2026. No macro, syntax, notation, axiom, sorry.
-/
import Derived.Test.YtolflfjfegngnaaDoorChecked
import GoSem.Claim
import GoSem.ClaimJoined
import GoSem.ClaimMapViews
import Derived.JoinedTies
import Derived.KernelRfl
namespace Go.Proofs.YtolflfjfegngnaaDoor
/- THE CELL 'sum', in the pinned program and in every row, IS THE sha256 OF THE DUMP (.gsa) THAT YtolflfjfegngnaaDoorProg.lean LOADS. Nothing in Lean hashes anything: it is a label: what it is worth is what the hold of that sum in a sandbox is worth. -/
noncomputable def Tryd.pinned : Pinned := { name := "ytolflfjfegngnaadoor", sum := "a03820febbe2492a08c793a91fa29b345df133d53992a0692ac033f591a4ec69", checked := Tryd.checked }
namespace Rows
def none {H : Type} : Left H := { results := [], args := [] }

/- WHAT THE LISTED PACKAGE-LEVEL VARIABLES READ AS WHEN THE CALL BEGINS. Each datum BY PROGRAM (the guide's laid-datum.mjs) off the statement by which the dump's own 'gosem.cut.vars' lays the variable. In a bare row this is a premise. The card (YtolflfjfegngnaaDoorCards.lean) ties it to the program's text. -/
def laid_reliquary_digest_first {H : Type} : DataW H := .agg [.lit (.int .u32 1779033703), .lit (.int .u32 3144134277), .lit (.int .u32 1013904242), .lit (.int .u32 2773480762), .lit (.int .u32 1359893119), .lit (.int .u32 2600822924), .lit (.int .u32 528734635), .lit (.int .u32 1541459225)]
def laid_reliquary_digest_rounds {H : Type} : DataW H := .agg [.lit (.int .u32 1116352408), .lit (.int .u32 1899447441), .lit (.int .u32 3049323471), .lit (.int .u32 3921009573), .lit (.int .u32 961987163), .lit (.int .u32 1508970993), .lit (.int .u32 2453635748), .lit (.int .u32 2870763221), .lit (.int .u32 3624381080), .lit (.int .u32 310598401), .lit (.int .u32 607225278), .lit (.int .u32 1426881987), .lit (.int .u32 1925078388), .lit (.int .u32 2162078206), .lit (.int .u32 2614888103), .lit (.int .u32 3248222580), .lit (.int .u32 3835390401), .lit (.int .u32 4022224774), .lit (.int .u32 264347078), .lit (.int .u32 604807628), .lit (.int .u32 770255983), .lit (.int .u32 1249150122), .lit (.int .u32 1555081692), .lit (.int .u32 1996064986), .lit (.int .u32 2554220882), .lit (.int .u32 2821834349), .lit (.int .u32 2952996808), .lit (.int .u32 3210313671), .lit (.int .u32 3336571891), .lit (.int .u32 3584528711), .lit (.int .u32 113926993), .lit (.int .u32 338241895), .lit (.int .u32 666307205), .lit (.int .u32 773529912), .lit (.int .u32 1294757372), .lit (.int .u32 1396182291), .lit (.int .u32 1695183700), .lit (.int .u32 1986661051), .lit (.int .u32 2177026350), .lit (.int .u32 2456956037), .lit (.int .u32 2730485921), .lit (.int .u32 2820302411), .lit (.int .u32 3259730800), .lit (.int .u32 3345764771), .lit (.int .u32 3516065817), .lit (.int .u32 3600352804), .lit (.int .u32 4094571909), .lit (.int .u32 275423344), .lit (.int .u32 430227734), .lit (.int .u32 506948616), .lit (.int .u32 659060556), .lit (.int .u32 883997877), .lit (.int .u32 958139571), .lit (.int .u32 1322822218), .lit (.int .u32 1537002063), .lit (.int .u32 1747873779), .lit (.int .u32 1955562222), .lit (.int .u32 2024104815), .lit (.int .u32 2227730452), .lit (.int .u32 2361852424), .lit (.int .u32 2428436474), .lit (.int .u32 2756734187), .lit (.int .u32 3204031479), .lit (.int .u32 3329325298)]

/-- 'reliquarylaw08.DigestSums': WHATEVER THE INPUT: true; the input reads as it did. -/
def digestSumsSpec : ChangeSpec := { name := "digestSums", fn := fun _ => fun
  | [d] => { results := [.lit (.bool true)], args := [d] }
  | _ => none }
def digestSumsRow : OpenClaim := { program := "ytolflfjfegngnaadoor", sum := "a03820febbe2492a08c793a91fa29b345df133d53992a0692ac033f591a4ec69", func := "reliquary/reliquarylaw08.DigestSums", spec := "digestSums", named := ["reliquary/digest.first", "reliquary/digest.rounds"], apart := false, laid := [("reliquary/digest.first", laid_reliquary_digest_first), ("reliquary/digest.rounds", laid_reliquary_digest_rounds)] }
def DigestSumsSaid : Prop := digestSumsRow.holds Tryd.pinned (OpenSpec.ofChange digestSumsSpec)

/-- ITS FALSE NEIGHBOUR: 'it returns false'. Refute it at one input. -/
def digestSumsWrong : ChangeSpec := { name := "digestSums", fn := fun _ => fun
  | [d] => { results := [.lit (.bool false)], args := [d] }
  | _ => none }
def DigestSumsWrongFalsely : Prop := digestSumsRow.holds Tryd.pinned (OpenSpec.ofChange digestSumsWrong)

/-- 'reliquarylaw08.DigestTexts': WHATEVER THE INPUT: true; the input reads as it did. -/
def digestTextsSpec : ChangeSpec := { name := "digestTexts", fn := fun _ => fun
  | [d1, d2, d3] => { results := [.lit (.bool true)], args := [d1, d2, d3] }
  | _ => none }
def digestTextsRow : OpenClaim := { program := "ytolflfjfegngnaadoor", sum := "a03820febbe2492a08c793a91fa29b345df133d53992a0692ac033f591a4ec69", func := "reliquary/reliquarylaw08.DigestTexts", spec := "digestTexts", named := ["reliquary/digest.first", "reliquary/digest.rounds"], apart := false, laid := [("reliquary/digest.first", laid_reliquary_digest_first), ("reliquary/digest.rounds", laid_reliquary_digest_rounds)] }
def DigestTextsSaid : Prop := digestTextsRow.holds Tryd.pinned (OpenSpec.ofChange digestTextsSpec)

/-- ITS FALSE NEIGHBOUR: 'it returns false'. Refute it at one input. -/
def digestTextsWrong : ChangeSpec := { name := "digestTexts", fn := fun _ => fun
  | [d1, d2, d3] => { results := [.lit (.bool false)], args := [d1, d2, d3] }
  | _ => none }
def DigestTextsWrongFalsely : Prop := digestTextsRow.holds Tryd.pinned (OpenSpec.ofChange digestTextsWrong)

/-- 'reliquarylaw08.DigestScript': WHATEVER THE INPUT: true; the input reads as it did. -/
def digestScriptSpec : ChangeSpec := { name := "digestScript", fn := fun _ => fun
  | [d] => { results := [.lit (.bool true)], args := [d] }
  | _ => none }
def digestScriptRow : OpenClaim := { program := "ytolflfjfegngnaadoor", sum := "a03820febbe2492a08c793a91fa29b345df133d53992a0692ac033f591a4ec69", func := "reliquary/reliquarylaw08.DigestScript", spec := "digestScript", named := ["reliquary/digest.first", "reliquary/digest.rounds"], apart := false, laid := [("reliquary/digest.first", laid_reliquary_digest_first), ("reliquary/digest.rounds", laid_reliquary_digest_rounds)] }
def DigestScriptSaid : Prop := digestScriptRow.holds Tryd.pinned (OpenSpec.ofChange digestScriptSpec)

/-- ITS FALSE NEIGHBOUR: 'it returns false'. Refute it at one input. -/
def digestScriptWrong : ChangeSpec := { name := "digestScript", fn := fun _ => fun
  | [d] => { results := [.lit (.bool false)], args := [d] }
  | _ => none }
def DigestScriptWrongFalsely : Prop := digestScriptRow.holds Tryd.pinned (OpenSpec.ofChange digestScriptWrong)

/-- 'reliquarylaw08.DigestNil': WHATEVER THE INPUT: true; the input reads as it did. -/
def digestNilSpec : ChangeSpec := { name := "digestNil", fn := fun _ => fun
  | [d] => { results := [.lit (.bool true)], args := [d] }
  | _ => none }
def digestNilRow : OpenClaim := { program := "ytolflfjfegngnaadoor", sum := "a03820febbe2492a08c793a91fa29b345df133d53992a0692ac033f591a4ec69", func := "reliquary/reliquarylaw08.DigestNil", spec := "digestNil", named := ["reliquary/digest.rounds"], apart := false, laid := [("reliquary/digest.rounds", laid_reliquary_digest_rounds)] }
def DigestNilSaid : Prop := digestNilRow.holds Tryd.pinned (OpenSpec.ofChange digestNilSpec)

/-- ITS FALSE NEIGHBOUR: 'it returns false'. Refute it at one input. -/
def digestNilWrong : ChangeSpec := { name := "digestNil", fn := fun _ => fun
  | [d] => { results := [.lit (.bool false)], args := [d] }
  | _ => none }
def DigestNilWrongFalsely : Prop := digestNilRow.holds Tryd.pinned (OpenSpec.ofChange digestNilWrong)

/-- 'reliquarylaw08.DigestKnown': WHATEVER THE INPUT: true; the input reads as it did. -/
def digestKnownSpec : ChangeSpec := { name := "digestKnown", fn := fun _ => fun
  | [] => { results := [.lit (.bool true)], args := [] }
  | _ => none }
def digestKnownRow : OpenClaim := { program := "ytolflfjfegngnaadoor", sum := "a03820febbe2492a08c793a91fa29b345df133d53992a0692ac033f591a4ec69", func := "reliquary/reliquarylaw08.DigestKnown", spec := "digestKnown", named := ["reliquary/digest.first", "reliquary/digest.rounds"], apart := false, laid := [("reliquary/digest.first", laid_reliquary_digest_first), ("reliquary/digest.rounds", laid_reliquary_digest_rounds)] }
def DigestKnownSaid : Prop := digestKnownRow.holds Tryd.pinned (OpenSpec.ofChange digestKnownSpec)

/-- ITS FALSE NEIGHBOUR: 'it returns false'. Refute it at one input. -/
def digestKnownWrong : ChangeSpec := { name := "digestKnown", fn := fun _ => fun
  | [] => { results := [.lit (.bool false)], args := [] }
  | _ => none }
def DigestKnownWrongFalsely : Prop := digestKnownRow.holds Tryd.pinned (OpenSpec.ofChange digestKnownWrong)

/-- 'reliquarylaw08.DigestPieces': WHATEVER THE INPUT: true; the input reads as it did. -/
def digestPiecesSpec : ChangeSpec := { name := "digestPieces", fn := fun _ => fun
  | [d1, d2] => { results := [.lit (.bool true)], args := [d1, d2] }
  | _ => none }
def digestPiecesRow : OpenClaim := { program := "ytolflfjfegngnaadoor", sum := "a03820febbe2492a08c793a91fa29b345df133d53992a0692ac033f591a4ec69", func := "reliquary/reliquarylaw08.DigestPieces", spec := "digestPieces", named := ["reliquary/digest.first", "reliquary/digest.rounds"], apart := false, laid := [("reliquary/digest.first", laid_reliquary_digest_first), ("reliquary/digest.rounds", laid_reliquary_digest_rounds)] }
def DigestPiecesSaid : Prop := digestPiecesRow.holds Tryd.pinned (OpenSpec.ofChange digestPiecesSpec)

/-- ITS FALSE NEIGHBOUR: 'it returns false'. Refute it at one input. -/
def digestPiecesWrong : ChangeSpec := { name := "digestPieces", fn := fun _ => fun
  | [d1, d2] => { results := [.lit (.bool false)], args := [d1, d2] }
  | _ => none }
def DigestPiecesWrongFalsely : Prop := digestPiecesRow.holds Tryd.pinned (OpenSpec.ofChange digestPiecesWrong)

/-- 'reliquarylaw09.MacCodes': WHATEVER THE INPUT: true; the input reads as it did. -/
def macCodesSpec : ChangeSpec := { name := "macCodes", fn := fun _ => fun
  | [d1, d2] => { results := [.lit (.bool true)], args := [d1, d2] }
  | _ => none }
def macCodesRow : OpenClaim := { program := "ytolflfjfegngnaadoor", sum := "a03820febbe2492a08c793a91fa29b345df133d53992a0692ac033f591a4ec69", func := "reliquary/reliquarylaw09.MacCodes", spec := "macCodes", named := ["reliquary/digest.first", "reliquary/digest.rounds"], apart := false, laid := [("reliquary/digest.first", laid_reliquary_digest_first), ("reliquary/digest.rounds", laid_reliquary_digest_rounds)] }
def MacCodesSaid : Prop := macCodesRow.holds Tryd.pinned (OpenSpec.ofChange macCodesSpec)

/-- ITS FALSE NEIGHBOUR: 'it returns false'. Refute it at one input. -/
def macCodesWrong : ChangeSpec := { name := "macCodes", fn := fun _ => fun
  | [d1, d2] => { results := [.lit (.bool false)], args := [d1, d2] }
  | _ => none }
def MacCodesWrongFalsely : Prop := macCodesRow.holds Tryd.pinned (OpenSpec.ofChange macCodesWrong)

/-- 'reliquarylaw09.MacDerives': WHATEVER THE INPUT: true; the input reads as it did. -/
def macDerivesSpec : ChangeSpec := { name := "macDerives", fn := fun _ => fun
  | [d1, d2, d3, d4] => { results := [.lit (.bool true)], args := [d1, d2, d3, d4] }
  | _ => none }
def macDerivesRow : OpenClaim := { program := "ytolflfjfegngnaadoor", sum := "a03820febbe2492a08c793a91fa29b345df133d53992a0692ac033f591a4ec69", func := "reliquary/reliquarylaw09.MacDerives", spec := "macDerives", named := ["reliquary/digest.first", "reliquary/digest.rounds"], apart := false, laid := [("reliquary/digest.first", laid_reliquary_digest_first), ("reliquary/digest.rounds", laid_reliquary_digest_rounds)] }
def MacDerivesSaid : Prop := macDerivesRow.holds Tryd.pinned (OpenSpec.ofChange macDerivesSpec)

/-- ITS FALSE NEIGHBOUR: 'it returns false'. Refute it at one input. -/
def macDerivesWrong : ChangeSpec := { name := "macDerives", fn := fun _ => fun
  | [d1, d2, d3, d4] => { results := [.lit (.bool false)], args := [d1, d2, d3, d4] }
  | _ => none }
def MacDerivesWrongFalsely : Prop := macDerivesRow.holds Tryd.pinned (OpenSpec.ofChange macDerivesWrong)

/-- 'reliquarylaw09.MacKnown': WHATEVER THE INPUT: true; the input reads as it did. -/
def macKnownSpec : ChangeSpec := { name := "macKnown", fn := fun _ => fun
  | [] => { results := [.lit (.bool true)], args := [] }
  | _ => none }
def macKnownRow : OpenClaim := { program := "ytolflfjfegngnaadoor", sum := "a03820febbe2492a08c793a91fa29b345df133d53992a0692ac033f591a4ec69", func := "reliquary/reliquarylaw09.MacKnown", spec := "macKnown", named := ["reliquary/digest.first", "reliquary/digest.rounds"], apart := false, laid := [("reliquary/digest.first", laid_reliquary_digest_first), ("reliquary/digest.rounds", laid_reliquary_digest_rounds)] }
def MacKnownSaid : Prop := macKnownRow.holds Tryd.pinned (OpenSpec.ofChange macKnownSpec)

/-- ITS FALSE NEIGHBOUR: 'it returns false'. Refute it at one input. -/
def macKnownWrong : ChangeSpec := { name := "macKnown", fn := fun _ => fun
  | [] => { results := [.lit (.bool false)], args := [] }
  | _ => none }
def MacKnownWrongFalsely : Prop := macKnownRow.holds Tryd.pinned (OpenSpec.ofChange macKnownWrong)

/-- 'reliquarylaw09.MacBegins': WHATEVER THE INPUT: true; the input reads as it did. -/
def macBeginsSpec : ChangeSpec := { name := "macBegins", fn := fun _ => fun
  | [d1, d2, d3, d4] => { results := [.lit (.bool true)], args := [d1, d2, d3, d4] }
  | _ => none }
def macBeginsRow : OpenClaim := { program := "ytolflfjfegngnaadoor", sum := "a03820febbe2492a08c793a91fa29b345df133d53992a0692ac033f591a4ec69", func := "reliquary/reliquarylaw09.MacBegins", spec := "macBegins", named := ["reliquary/digest.first", "reliquary/digest.rounds"], apart := false, laid := [("reliquary/digest.first", laid_reliquary_digest_first), ("reliquary/digest.rounds", laid_reliquary_digest_rounds)] }
def MacBeginsSaid : Prop := macBeginsRow.holds Tryd.pinned (OpenSpec.ofChange macBeginsSpec)

/-- ITS FALSE NEIGHBOUR: 'it returns false'. Refute it at one input. -/
def macBeginsWrong : ChangeSpec := { name := "macBegins", fn := fun _ => fun
  | [d1, d2, d3, d4] => { results := [.lit (.bool false)], args := [d1, d2, d3, d4] }
  | _ => none }
def MacBeginsWrongFalsely : Prop := macBeginsRow.holds Tryd.pinned (OpenSpec.ofChange macBeginsWrong)

/- THE SECOND FORM. 'bulk': how many values and letters a reading holds, each counted each time it is reached (what is shared counts as often as it is met; a slice's spare places count too). A statement '..UptoSaid' is the law's where the arguments, and the package variables that the reading takes, are together of bulk at most 1048576: NARROWER than '..Said'. Prove '..Said' where nothing that the law and all that it calls make is longer than what came in: it says more and counts as full. Else prove '..UptoSaid'. A law counts once. -/
mutual
def uptoBulk {H : Type} : DataW H → Nat
  | .lit (.string bytes) => bytes.length + 1
  | .lit _ => 1
  | .nil => 1
  | .ptr d => uptoBulk d + 1
  | .slice elems spare => uptoBulkAll elems + uptoBulkAll spare + 1
  | .agg parts => uptoBulkAll parts + 1
  | .iface _ d => uptoBulk d + 1
  | .map entries => uptoBulkEntries entries + 1
  | .held _ => 1
def uptoBulkAll {H : Type} : List (DataW H) → Nat
  | [] => 0
  | d :: r => uptoBulk d + uptoBulkAll r
def uptoBulkEntries {H : Type} : List (Lit × DataW H) → Nat
  | [] => 0
  | x :: r => uptoBulkEntry x + uptoBulkEntries r
def uptoBulkEntry {H : Type} : Lit × DataW H → Nat
  | (.string bytes, d) => bytes.length + uptoBulk d + 1
  | (_, d) => uptoBulk d + 1
 end
def uptoSmall : (H : Type) → List (DataW H) → Bool := fun _ ds => decide (uptoBulkAll ds ≤ 1048576)
def OpenSpec.upto (s : _root_.Go.ChangeSpec) : _root_.Go.OpenSpec := { _root_.Go.OpenSpec.ofChange s with cond := some uptoSmall }

/-- 'reliquarylaw08.DigestSums', WHERE WHAT IT READS IS OF BULK AT MOST 1048576: true; the input reads as it did. -/
def digestSumsUptoRow : OpenClaim := { program := "ytolflfjfegngnaadoor", sum := "a03820febbe2492a08c793a91fa29b345df133d53992a0692ac033f591a4ec69", func := "reliquary/reliquarylaw08.DigestSums", spec := "digestSums", named := ["reliquary/digest.first", "reliquary/digest.rounds"], apart := false, laid := [("reliquary/digest.first", laid_reliquary_digest_first), ("reliquary/digest.rounds", laid_reliquary_digest_rounds)], narrowed := true }
def DigestSumsUptoSaid : Prop := digestSumsUptoRow.holds Tryd.pinned (OpenSpec.upto digestSumsSpec)

/-- 'reliquarylaw08.DigestTexts', WHERE WHAT IT READS IS OF BULK AT MOST 1048576: true; the input reads as it did. -/
def digestTextsUptoRow : OpenClaim := { program := "ytolflfjfegngnaadoor", sum := "a03820febbe2492a08c793a91fa29b345df133d53992a0692ac033f591a4ec69", func := "reliquary/reliquarylaw08.DigestTexts", spec := "digestTexts", named := ["reliquary/digest.first", "reliquary/digest.rounds"], apart := false, laid := [("reliquary/digest.first", laid_reliquary_digest_first), ("reliquary/digest.rounds", laid_reliquary_digest_rounds)], narrowed := true }
def DigestTextsUptoSaid : Prop := digestTextsUptoRow.holds Tryd.pinned (OpenSpec.upto digestTextsSpec)

/-- 'reliquarylaw08.DigestScript', WHERE WHAT IT READS IS OF BULK AT MOST 1048576: true; the input reads as it did. -/
def digestScriptUptoRow : OpenClaim := { program := "ytolflfjfegngnaadoor", sum := "a03820febbe2492a08c793a91fa29b345df133d53992a0692ac033f591a4ec69", func := "reliquary/reliquarylaw08.DigestScript", spec := "digestScript", named := ["reliquary/digest.first", "reliquary/digest.rounds"], apart := false, laid := [("reliquary/digest.first", laid_reliquary_digest_first), ("reliquary/digest.rounds", laid_reliquary_digest_rounds)], narrowed := true }
def DigestScriptUptoSaid : Prop := digestScriptUptoRow.holds Tryd.pinned (OpenSpec.upto digestScriptSpec)

/-- 'reliquarylaw08.DigestNil', WHERE WHAT IT READS IS OF BULK AT MOST 1048576: true; the input reads as it did. -/
def digestNilUptoRow : OpenClaim := { program := "ytolflfjfegngnaadoor", sum := "a03820febbe2492a08c793a91fa29b345df133d53992a0692ac033f591a4ec69", func := "reliquary/reliquarylaw08.DigestNil", spec := "digestNil", named := ["reliquary/digest.rounds"], apart := false, laid := [("reliquary/digest.rounds", laid_reliquary_digest_rounds)], narrowed := true }
def DigestNilUptoSaid : Prop := digestNilUptoRow.holds Tryd.pinned (OpenSpec.upto digestNilSpec)

/-- 'reliquarylaw08.DigestKnown', WHERE WHAT IT READS IS OF BULK AT MOST 1048576: true; the input reads as it did. -/
def digestKnownUptoRow : OpenClaim := { program := "ytolflfjfegngnaadoor", sum := "a03820febbe2492a08c793a91fa29b345df133d53992a0692ac033f591a4ec69", func := "reliquary/reliquarylaw08.DigestKnown", spec := "digestKnown", named := ["reliquary/digest.first", "reliquary/digest.rounds"], apart := false, laid := [("reliquary/digest.first", laid_reliquary_digest_first), ("reliquary/digest.rounds", laid_reliquary_digest_rounds)], narrowed := true }
def DigestKnownUptoSaid : Prop := digestKnownUptoRow.holds Tryd.pinned (OpenSpec.upto digestKnownSpec)

/-- 'reliquarylaw08.DigestPieces', WHERE WHAT IT READS IS OF BULK AT MOST 1048576: true; the input reads as it did. -/
def digestPiecesUptoRow : OpenClaim := { program := "ytolflfjfegngnaadoor", sum := "a03820febbe2492a08c793a91fa29b345df133d53992a0692ac033f591a4ec69", func := "reliquary/reliquarylaw08.DigestPieces", spec := "digestPieces", named := ["reliquary/digest.first", "reliquary/digest.rounds"], apart := false, laid := [("reliquary/digest.first", laid_reliquary_digest_first), ("reliquary/digest.rounds", laid_reliquary_digest_rounds)], narrowed := true }
def DigestPiecesUptoSaid : Prop := digestPiecesUptoRow.holds Tryd.pinned (OpenSpec.upto digestPiecesSpec)

/-- 'reliquarylaw09.MacCodes', WHERE WHAT IT READS IS OF BULK AT MOST 1048576: true; the input reads as it did. -/
def macCodesUptoRow : OpenClaim := { program := "ytolflfjfegngnaadoor", sum := "a03820febbe2492a08c793a91fa29b345df133d53992a0692ac033f591a4ec69", func := "reliquary/reliquarylaw09.MacCodes", spec := "macCodes", named := ["reliquary/digest.first", "reliquary/digest.rounds"], apart := false, laid := [("reliquary/digest.first", laid_reliquary_digest_first), ("reliquary/digest.rounds", laid_reliquary_digest_rounds)], narrowed := true }
def MacCodesUptoSaid : Prop := macCodesUptoRow.holds Tryd.pinned (OpenSpec.upto macCodesSpec)

/-- 'reliquarylaw09.MacDerives', WHERE WHAT IT READS IS OF BULK AT MOST 1048576: true; the input reads as it did. -/
def macDerivesUptoRow : OpenClaim := { program := "ytolflfjfegngnaadoor", sum := "a03820febbe2492a08c793a91fa29b345df133d53992a0692ac033f591a4ec69", func := "reliquary/reliquarylaw09.MacDerives", spec := "macDerives", named := ["reliquary/digest.first", "reliquary/digest.rounds"], apart := false, laid := [("reliquary/digest.first", laid_reliquary_digest_first), ("reliquary/digest.rounds", laid_reliquary_digest_rounds)], narrowed := true }
def MacDerivesUptoSaid : Prop := macDerivesUptoRow.holds Tryd.pinned (OpenSpec.upto macDerivesSpec)

/-- 'reliquarylaw09.MacKnown', WHERE WHAT IT READS IS OF BULK AT MOST 1048576: true; the input reads as it did. -/
def macKnownUptoRow : OpenClaim := { program := "ytolflfjfegngnaadoor", sum := "a03820febbe2492a08c793a91fa29b345df133d53992a0692ac033f591a4ec69", func := "reliquary/reliquarylaw09.MacKnown", spec := "macKnown", named := ["reliquary/digest.first", "reliquary/digest.rounds"], apart := false, laid := [("reliquary/digest.first", laid_reliquary_digest_first), ("reliquary/digest.rounds", laid_reliquary_digest_rounds)], narrowed := true }
def MacKnownUptoSaid : Prop := macKnownUptoRow.holds Tryd.pinned (OpenSpec.upto macKnownSpec)

/-- 'reliquarylaw09.MacBegins', WHERE WHAT IT READS IS OF BULK AT MOST 1048576: true; the input reads as it did. -/
def macBeginsUptoRow : OpenClaim := { program := "ytolflfjfegngnaadoor", sum := "a03820febbe2492a08c793a91fa29b345df133d53992a0692ac033f591a4ec69", func := "reliquary/reliquarylaw09.MacBegins", spec := "macBegins", named := ["reliquary/digest.first", "reliquary/digest.rounds"], apart := false, laid := [("reliquary/digest.first", laid_reliquary_digest_first), ("reliquary/digest.rounds", laid_reliquary_digest_rounds)], narrowed := true }
def MacBeginsUptoSaid : Prop := macBeginsUptoRow.holds Tryd.pinned (OpenSpec.upto macBeginsSpec)

end Rows
end Go.Proofs.YtolflfjfegngnaaDoor
