/-
  NARROWER THAN 'FOR EVERY INPUT', by the rows' own cells (each row's printed sentence says how): SyntaxParses: laid · SyntaxChecks: loops, laid · SyntaxPrints: loops, laid · SyntaxNames: loops, laid · SyntaxPlaces: loops, laid · SyntaxBack: loops, laid · SyntaxTokens: laid · SyntaxLeast: loops, laid · SyntaxLines: loops, laid · SyntaxRenames: loops, laid · SyntaxPuts: loops, laid · SyntaxPlain: loops, laid · SyntaxJoined: laid · SyntaxEnds: laid.
  DERIVED. THE GIVEN ROWS OF THIS SEAT. 14 by the template 'for every input the law returns true; each argument reads behind the call as it read before'; 0 by the template 'total and deterministic' (their statements: YtgjijidlaghlmaaGreatDoorTotals.lean).
  GIVEN WITH THE SEED: the statements are not yours to turn. If you find one false, say at which input.
  Laid BY PROGRAM, IN A SANDBOX (cutbox-rows.mjs): the forced cells as the released guide's own fill.sh prints them over the translation d10a64921fbd7002… (all of the seat's roots in one cut). By AI agents, Wed Nov 11 2026. No macro, syntax, notation, axiom, sorry.
-/
import Derived.Test.YtgjijidlaghlmaaGreatDoorChecked
import GoSem.PinnedTables
import GoSem.Claim
import GoSem.ClaimJoined
import GoSem.ClaimMapViews
import Derived.JoinedTies
import Derived.KernelRfl
namespace Go.Proofs.YtgjijidlaghlmaaGreatDoor
/- THE CELL 'sum', in the pinned program and in every row, IS THE sha256 OF THE DUMP (.gsa) THAT YtgjijidlaghlmaaGreatDoorProg.lean LOADS. Nothing in Lean hashes anything: it is a label: what it is worth is what the hold of that sum in a sandbox is worth. -/
noncomputable def Tryz.pinned : Pinned := { name := "ytgjijidlaghlmaagreatdoor", sum := "d10a64921fbd70026f5993d1475ff6d4d16890e33885dbc3753c367d9647bf1d", checked := Tryz.checked }
namespace Rows
def none {H : Type} : Left H := { results := [], args := [] }

/- WHAT THE LISTED PACKAGE-LEVEL VARIABLES READ AS WHEN THE CALL BEGINS. Each datum BY PROGRAM (the guide's laid-datum.mjs) off the statement by which the dump's own 'gosem.cut.vars' lays the variable. In a bare row this is a premise. The card (YtgjijidlaghlmaaGreatDoorCards.lean) ties it to the program's text. -/
def laid_peculium_syntax_openings {H : Type} : DataW H := .agg [.agg [.lit (.string [116, 121, 112, 101]), .lit (.int .i64 2)], .agg [.lit (.string [101, 120, 112, 111, 114, 116]), .lit (.int .i64 14)], .agg [.lit (.string [99, 111, 110, 115, 116]), .lit (.int .i64 3)], .agg [.lit (.string [112, 114, 101, 100]), .lit (.int .i64 4)], .agg [.lit (.string [102, 97, 99, 116]), .lit (.int .i64 5)], .agg [.lit (.string [108, 97, 115, 116, 105, 110, 103]), .lit (.int .i64 6)], .agg [.lit (.string [109, 111, 100, 101]), .lit (.int .i64 7)], .agg [.lit (.string [114, 117, 108, 101]), .lit (.int .i64 8)], .agg [.lit (.string [111, 110, 99, 101]), .lit (.int .i64 9)], .agg [.lit (.string [109, 111, 115, 116]), .lit (.int .i64 10)], .agg [.lit (.string [113, 117, 101, 114, 121]), .lit (.int .i64 11)], .agg [.lit (.string [109, 111, 100, 117, 108, 101]), .lit (.int .i64 12)], .agg [.lit (.string [117, 115, 101]), .lit (.int .i64 13)], .agg [.lit (.string [33]), .lit (.int .i64 29)], .agg [.lit (.string [97, 108, 108]), .lit (.int .i64 18)], .agg [.lit (.string [101, 120]), .lit (.int .i64 19)], .agg [.lit (.string [111, 110, 101]), .lit (.int .i64 20)], .agg [.lit (.string [116, 111, 112]), .lit (.int .i64 21)], .agg [.lit (.string [123]), .lit (.int .i64 30)], .agg [.lit (.string [92]), .lit (.int .i64 17)]]
def laid_peculium_syntax_operators {H : Type} : DataW H := .agg [.agg [.lit (.string [111, 45]), .lit (.int .i64 27), .lit (.int .i64 0)], .agg [.lit (.string [60, 61]), .lit (.int .i64 28), .lit (.int .i64 0)], .agg [.lit (.string [45, 111]), .lit (.int .i64 25), .lit (.int .i64 1)], .agg [.lit (.string [61, 62]), .lit (.int .i64 26), .lit (.int .i64 1)], .agg [.lit (.string [43]), .lit (.int .i64 24), .lit (.int .i64 2)], .agg [.lit (.string [38]), .lit (.int .i64 23), .lit (.int .i64 3)], .agg [.lit (.string [42]), .lit (.int .i64 22), .lit (.int .i64 4)], .agg [.lit (.string [45, 62]), .lit (.int .i64 31), .lit (.int .i64 6)]]
def laid_unicode_utf8_acceptRanges {H : Type} : DataW H := .agg [.agg [.lit (.int .u8 128), .lit (.int .u8 191)], .agg [.lit (.int .u8 160), .lit (.int .u8 191)], .agg [.lit (.int .u8 128), .lit (.int .u8 159)], .agg [.lit (.int .u8 144), .lit (.int .u8 191)], .agg [.lit (.int .u8 128), .lit (.int .u8 143)], .agg [.lit (.int .u8 0), .lit (.int .u8 0)], .agg [.lit (.int .u8 0), .lit (.int .u8 0)], .agg [.lit (.int .u8 0), .lit (.int .u8 0)], .agg [.lit (.int .u8 0), .lit (.int .u8 0)], .agg [.lit (.int .u8 0), .lit (.int .u8 0)], .agg [.lit (.int .u8 0), .lit (.int .u8 0)], .agg [.lit (.int .u8 0), .lit (.int .u8 0)], .agg [.lit (.int .u8 0), .lit (.int .u8 0)], .agg [.lit (.int .u8 0), .lit (.int .u8 0)], .agg [.lit (.int .u8 0), .lit (.int .u8 0)], .agg [.lit (.int .u8 0), .lit (.int .u8 0)]]
/-- One of Go's own tables, pinned by name: the form's constant. -/
def laid_unicode_utf8_first : DataW Unit := Go.Pinned.utf8First

/-- 'peculiumlaw02.SyntaxParses': WHATEVER THE INPUT: true; the input reads as it did. -/
def syntaxParsesSpec : ChangeSpec := { name := "syntaxParses", fn := fun _ => fun
  | [d] => { results := [.lit (.bool true)], args := [d] }
  | _ => none }
def syntaxParsesRow : OpenClaim := { program := "ytgjijidlaghlmaagreatdoor", sum := "d10a64921fbd70026f5993d1475ff6d4d16890e33885dbc3753c367d9647bf1d", func := "peculium/peculiumlaw02.SyntaxParses", spec := "syntaxParses", inPlace := ["internal/bytealg.IndexByteString", "internal/bytealg.IndexString", "internal/abi.NoEscape"], unfollowed := true, recurses := true, named := ["peculium/syntax.openings", "peculium/syntax.operators", "internal/bytealg.MaxLen"], apart := false, laid := [("peculium/syntax.openings", laid_peculium_syntax_openings), ("peculium/syntax.operators", laid_peculium_syntax_operators)] }
def SyntaxParsesSaid : Prop := syntaxParsesRow.holds Tryz.pinned (OpenSpec.ofChange syntaxParsesSpec)

/-- ITS FALSE NEIGHBOUR: 'it returns false'. Refute it at one input. -/
def syntaxParsesWrong : ChangeSpec := { name := "syntaxParses", fn := fun _ => fun
  | [d] => { results := [.lit (.bool false)], args := [d] }
  | _ => none }
def SyntaxParsesWrongFalsely : Prop := syntaxParsesRow.holds Tryz.pinned (OpenSpec.ofChange syntaxParsesWrong)

/-- 'peculiumlaw02.SyntaxChecks': WHATEVER THE INPUT: true; the input reads as it did. -/
def syntaxChecksSpec : ChangeSpec := { name := "syntaxChecks", fn := fun _ => fun
  | [d1, d2] => { results := [.lit (.bool true)], args := [d1, d2] }
  | _ => none }
def syntaxChecksRow : OpenClaim := { program := "ytgjijidlaghlmaagreatdoor", sum := "d10a64921fbd70026f5993d1475ff6d4d16890e33885dbc3753c367d9647bf1d", func := "peculium/peculiumlaw02.SyntaxChecks", spec := "syntaxChecks", inPlace := ["internal/bytealg.IndexByteString", "internal/bytealg.IndexString", "internal/abi.NoEscape"], unfollowed := true, recurses := true, named := ["peculium/syntax.openings", "peculium/syntax.operators", "internal/bytealg.MaxLen"], loops := true, apart := false, laid := [("peculium/syntax.openings", laid_peculium_syntax_openings), ("peculium/syntax.operators", laid_peculium_syntax_operators)] }
def SyntaxChecksSaid : Prop := syntaxChecksRow.holds Tryz.pinned (OpenSpec.ofChange syntaxChecksSpec)

/-- ITS FALSE NEIGHBOUR: 'it returns false'. Refute it at one input. -/
def syntaxChecksWrong : ChangeSpec := { name := "syntaxChecks", fn := fun _ => fun
  | [d1, d2] => { results := [.lit (.bool false)], args := [d1, d2] }
  | _ => none }
def SyntaxChecksWrongFalsely : Prop := syntaxChecksRow.holds Tryz.pinned (OpenSpec.ofChange syntaxChecksWrong)

/-- 'peculiumlaw02.SyntaxPrints': WHATEVER THE INPUT: true; the input reads as it did. -/
def syntaxPrintsSpec : ChangeSpec := { name := "syntaxPrints", fn := fun _ => fun
  | [d1, d2] => { results := [.lit (.bool true)], args := [d1, d2] }
  | _ => none }
def syntaxPrintsRow : OpenClaim := { program := "ytgjijidlaghlmaagreatdoor", sum := "d10a64921fbd70026f5993d1475ff6d4d16890e33885dbc3753c367d9647bf1d", func := "peculium/peculiumlaw02.SyntaxPrints", spec := "syntaxPrints", inPlace := ["internal/bytealg.IndexByteString", "internal/bytealg.IndexString", "internal/abi.NoEscape", "internal/bytealg.CountString", "internal/bytealg.MakeNoZero"], unfollowed := true, recurses := true, named := ["peculium/syntax.openings", "peculium/syntax.operators", "internal/bytealg.MaxLen", "unicode/utf8.first", "unicode/utf8.acceptRanges"], loops := true, apart := false, laid := [("unicode/utf8.acceptRanges", laid_unicode_utf8_acceptRanges), ("peculium/syntax.openings", laid_peculium_syntax_openings), ("peculium/syntax.operators", laid_peculium_syntax_operators), ("unicode/utf8.first", laid_unicode_utf8_first)] }
def SyntaxPrintsSaid : Prop := syntaxPrintsRow.holds Tryz.pinned (OpenSpec.ofChange syntaxPrintsSpec)

/-- ITS FALSE NEIGHBOUR: 'it returns false'. Refute it at one input. -/
def syntaxPrintsWrong : ChangeSpec := { name := "syntaxPrints", fn := fun _ => fun
  | [d1, d2] => { results := [.lit (.bool false)], args := [d1, d2] }
  | _ => none }
def SyntaxPrintsWrongFalsely : Prop := syntaxPrintsRow.holds Tryz.pinned (OpenSpec.ofChange syntaxPrintsWrong)

/-- 'peculiumlaw02.SyntaxNames': WHATEVER THE INPUT: true; the input reads as it did. -/
def syntaxNamesSpec : ChangeSpec := { name := "syntaxNames", fn := fun _ => fun
  | [d1, d2, d3] => { results := [.lit (.bool true)], args := [d1, d2, d3] }
  | _ => none }
def syntaxNamesRow : OpenClaim := { program := "ytgjijidlaghlmaagreatdoor", sum := "d10a64921fbd70026f5993d1475ff6d4d16890e33885dbc3753c367d9647bf1d", func := "peculium/peculiumlaw02.SyntaxNames", spec := "syntaxNames", inPlace := ["internal/bytealg.IndexByteString", "internal/bytealg.IndexString", "internal/abi.NoEscape"], unfollowed := true, recurses := true, named := ["peculium/syntax.openings", "peculium/syntax.operators", "internal/bytealg.MaxLen"], loops := true, apart := false, laid := [("peculium/syntax.openings", laid_peculium_syntax_openings), ("peculium/syntax.operators", laid_peculium_syntax_operators)] }
def SyntaxNamesSaid : Prop := syntaxNamesRow.holds Tryz.pinned (OpenSpec.ofChange syntaxNamesSpec)

/-- ITS FALSE NEIGHBOUR: 'it returns false'. Refute it at one input. -/
def syntaxNamesWrong : ChangeSpec := { name := "syntaxNames", fn := fun _ => fun
  | [d1, d2, d3] => { results := [.lit (.bool false)], args := [d1, d2, d3] }
  | _ => none }
def SyntaxNamesWrongFalsely : Prop := syntaxNamesRow.holds Tryz.pinned (OpenSpec.ofChange syntaxNamesWrong)

/-- 'peculiumlaw02.SyntaxPlaces': WHATEVER THE INPUT: true; the input reads as it did. -/
def syntaxPlacesSpec : ChangeSpec := { name := "syntaxPlaces", fn := fun _ => fun
  | [d1, d2, d3] => { results := [.lit (.bool true)], args := [d1, d2, d3] }
  | _ => none }
def syntaxPlacesRow : OpenClaim := { program := "ytgjijidlaghlmaagreatdoor", sum := "d10a64921fbd70026f5993d1475ff6d4d16890e33885dbc3753c367d9647bf1d", func := "peculium/peculiumlaw02.SyntaxPlaces", spec := "syntaxPlaces", inPlace := ["internal/bytealg.IndexByteString", "internal/bytealg.IndexString", "internal/abi.NoEscape"], unfollowed := true, recurses := true, named := ["peculium/syntax.openings", "peculium/syntax.operators", "internal/bytealg.MaxLen"], loops := true, apart := false, laid := [("peculium/syntax.openings", laid_peculium_syntax_openings), ("peculium/syntax.operators", laid_peculium_syntax_operators)] }
def SyntaxPlacesSaid : Prop := syntaxPlacesRow.holds Tryz.pinned (OpenSpec.ofChange syntaxPlacesSpec)

/-- ITS FALSE NEIGHBOUR: 'it returns false'. Refute it at one input. -/
def syntaxPlacesWrong : ChangeSpec := { name := "syntaxPlaces", fn := fun _ => fun
  | [d1, d2, d3] => { results := [.lit (.bool false)], args := [d1, d2, d3] }
  | _ => none }
def SyntaxPlacesWrongFalsely : Prop := syntaxPlacesRow.holds Tryz.pinned (OpenSpec.ofChange syntaxPlacesWrong)

/-- 'peculiumlaw02.SyntaxBack': WHATEVER THE INPUT: true; the input reads as it did. -/
def syntaxBackSpec : ChangeSpec := { name := "syntaxBack", fn := fun _ => fun
  | [d1, d2] => { results := [.lit (.bool true)], args := [d1, d2] }
  | _ => none }
def syntaxBackRow : OpenClaim := { program := "ytgjijidlaghlmaagreatdoor", sum := "d10a64921fbd70026f5993d1475ff6d4d16890e33885dbc3753c367d9647bf1d", func := "peculium/peculiumlaw02.SyntaxBack", spec := "syntaxBack", inPlace := ["internal/bytealg.IndexByteString", "internal/bytealg.IndexString", "internal/abi.NoEscape", "internal/bytealg.CountString", "internal/bytealg.MakeNoZero"], unfollowed := true, recurses := true, named := ["peculium/syntax.openings", "peculium/syntax.operators", "internal/bytealg.MaxLen", "unicode/utf8.first", "unicode/utf8.acceptRanges"], loops := true, apart := false, laid := [("unicode/utf8.acceptRanges", laid_unicode_utf8_acceptRanges), ("peculium/syntax.openings", laid_peculium_syntax_openings), ("peculium/syntax.operators", laid_peculium_syntax_operators), ("unicode/utf8.first", laid_unicode_utf8_first)] }
def SyntaxBackSaid : Prop := syntaxBackRow.holds Tryz.pinned (OpenSpec.ofChange syntaxBackSpec)

/-- ITS FALSE NEIGHBOUR: 'it returns false'. Refute it at one input. -/
def syntaxBackWrong : ChangeSpec := { name := "syntaxBack", fn := fun _ => fun
  | [d1, d2] => { results := [.lit (.bool false)], args := [d1, d2] }
  | _ => none }
def SyntaxBackWrongFalsely : Prop := syntaxBackRow.holds Tryz.pinned (OpenSpec.ofChange syntaxBackWrong)

/-- 'peculiumlaw02.SyntaxTokens': WHATEVER THE INPUT: true; the input reads as it did. -/
def syntaxTokensSpec : ChangeSpec := { name := "syntaxTokens", fn := fun _ => fun
  | [d1, d2] => { results := [.lit (.bool true)], args := [d1, d2] }
  | _ => none }
def syntaxTokensRow : OpenClaim := { program := "ytgjijidlaghlmaagreatdoor", sum := "d10a64921fbd70026f5993d1475ff6d4d16890e33885dbc3753c367d9647bf1d", func := "peculium/peculiumlaw02.SyntaxTokens", spec := "syntaxTokens", inPlace := ["internal/bytealg.IndexByteString", "internal/bytealg.IndexString", "internal/abi.NoEscape"], unfollowed := true, recurses := true, named := ["peculium/syntax.openings", "peculium/syntax.operators", "internal/bytealg.MaxLen"], apart := false, laid := [("peculium/syntax.openings", laid_peculium_syntax_openings), ("peculium/syntax.operators", laid_peculium_syntax_operators)] }
def SyntaxTokensSaid : Prop := syntaxTokensRow.holds Tryz.pinned (OpenSpec.ofChange syntaxTokensSpec)

/-- ITS FALSE NEIGHBOUR: 'it returns false'. Refute it at one input. -/
def syntaxTokensWrong : ChangeSpec := { name := "syntaxTokens", fn := fun _ => fun
  | [d1, d2] => { results := [.lit (.bool false)], args := [d1, d2] }
  | _ => none }
def SyntaxTokensWrongFalsely : Prop := syntaxTokensRow.holds Tryz.pinned (OpenSpec.ofChange syntaxTokensWrong)

/-- 'peculiumlaw02.SyntaxLeast': WHATEVER THE INPUT: true; the input reads as it did. -/
def syntaxLeastSpec : ChangeSpec := { name := "syntaxLeast", fn := fun _ => fun
  | [d1, d2] => { results := [.lit (.bool true)], args := [d1, d2] }
  | _ => none }
def syntaxLeastRow : OpenClaim := { program := "ytgjijidlaghlmaagreatdoor", sum := "d10a64921fbd70026f5993d1475ff6d4d16890e33885dbc3753c367d9647bf1d", func := "peculium/peculiumlaw02.SyntaxLeast", spec := "syntaxLeast", inPlace := ["internal/bytealg.IndexByteString", "internal/bytealg.IndexString", "internal/abi.NoEscape"], unfollowed := true, recurses := true, named := ["peculium/syntax.openings", "peculium/syntax.operators", "internal/bytealg.MaxLen"], loops := true, apart := false, laid := [("peculium/syntax.openings", laid_peculium_syntax_openings), ("peculium/syntax.operators", laid_peculium_syntax_operators)] }
def SyntaxLeastSaid : Prop := syntaxLeastRow.holds Tryz.pinned (OpenSpec.ofChange syntaxLeastSpec)

/-- ITS FALSE NEIGHBOUR: 'it returns false'. Refute it at one input. -/
def syntaxLeastWrong : ChangeSpec := { name := "syntaxLeast", fn := fun _ => fun
  | [d1, d2] => { results := [.lit (.bool false)], args := [d1, d2] }
  | _ => none }
def SyntaxLeastWrongFalsely : Prop := syntaxLeastRow.holds Tryz.pinned (OpenSpec.ofChange syntaxLeastWrong)

/-- 'peculiumlaw02.SyntaxLines': WHATEVER THE INPUT: true; the input reads as it did. -/
def syntaxLinesSpec : ChangeSpec := { name := "syntaxLines", fn := fun _ => fun
  | [d1, d2] => { results := [.lit (.bool true)], args := [d1, d2] }
  | _ => none }
def syntaxLinesRow : OpenClaim := { program := "ytgjijidlaghlmaagreatdoor", sum := "d10a64921fbd70026f5993d1475ff6d4d16890e33885dbc3753c367d9647bf1d", func := "peculium/peculiumlaw02.SyntaxLines", spec := "syntaxLines", inPlace := ["internal/bytealg.IndexByteString", "internal/bytealg.IndexString", "internal/abi.NoEscape", "internal/bytealg.CountString", "internal/bytealg.MakeNoZero"], unfollowed := true, recurses := true, named := ["peculium/syntax.openings", "peculium/syntax.operators", "internal/bytealg.MaxLen", "unicode/utf8.first", "unicode/utf8.acceptRanges"], loops := true, apart := false, laid := [("unicode/utf8.acceptRanges", laid_unicode_utf8_acceptRanges), ("peculium/syntax.openings", laid_peculium_syntax_openings), ("peculium/syntax.operators", laid_peculium_syntax_operators), ("unicode/utf8.first", laid_unicode_utf8_first)] }
def SyntaxLinesSaid : Prop := syntaxLinesRow.holds Tryz.pinned (OpenSpec.ofChange syntaxLinesSpec)

/-- ITS FALSE NEIGHBOUR: 'it returns false'. Refute it at one input. -/
def syntaxLinesWrong : ChangeSpec := { name := "syntaxLines", fn := fun _ => fun
  | [d1, d2] => { results := [.lit (.bool false)], args := [d1, d2] }
  | _ => none }
def SyntaxLinesWrongFalsely : Prop := syntaxLinesRow.holds Tryz.pinned (OpenSpec.ofChange syntaxLinesWrong)

/-- 'peculiumlaw02.SyntaxRenames': WHATEVER THE INPUT: true; the input reads as it did. -/
def syntaxRenamesSpec : ChangeSpec := { name := "syntaxRenames", fn := fun _ => fun
  | [d1, d2, d3] => { results := [.lit (.bool true)], args := [d1, d2, d3] }
  | _ => none }
def syntaxRenamesRow : OpenClaim := { program := "ytgjijidlaghlmaagreatdoor", sum := "d10a64921fbd70026f5993d1475ff6d4d16890e33885dbc3753c367d9647bf1d", func := "peculium/peculiumlaw02.SyntaxRenames", spec := "syntaxRenames", inPlace := ["internal/bytealg.IndexByteString", "internal/bytealg.IndexString", "internal/abi.NoEscape"], unfollowed := true, recurses := true, named := ["peculium/syntax.openings", "peculium/syntax.operators", "internal/bytealg.MaxLen"], loops := true, apart := false, laid := [("peculium/syntax.openings", laid_peculium_syntax_openings), ("peculium/syntax.operators", laid_peculium_syntax_operators)] }
def SyntaxRenamesSaid : Prop := syntaxRenamesRow.holds Tryz.pinned (OpenSpec.ofChange syntaxRenamesSpec)

/-- ITS FALSE NEIGHBOUR: 'it returns false'. Refute it at one input. -/
def syntaxRenamesWrong : ChangeSpec := { name := "syntaxRenames", fn := fun _ => fun
  | [d1, d2, d3] => { results := [.lit (.bool false)], args := [d1, d2, d3] }
  | _ => none }
def SyntaxRenamesWrongFalsely : Prop := syntaxRenamesRow.holds Tryz.pinned (OpenSpec.ofChange syntaxRenamesWrong)

/-- 'peculiumlaw02.SyntaxPuts': WHATEVER THE INPUT: true; the input reads as it did. -/
def syntaxPutsSpec : ChangeSpec := { name := "syntaxPuts", fn := fun _ => fun
  | [d1, d2, d3] => { results := [.lit (.bool true)], args := [d1, d2, d3] }
  | _ => none }
def syntaxPutsRow : OpenClaim := { program := "ytgjijidlaghlmaagreatdoor", sum := "d10a64921fbd70026f5993d1475ff6d4d16890e33885dbc3753c367d9647bf1d", func := "peculium/peculiumlaw02.SyntaxPuts", spec := "syntaxPuts", inPlace := ["internal/bytealg.IndexByteString", "internal/bytealg.IndexString", "internal/abi.NoEscape"], unfollowed := true, recurses := true, named := ["peculium/syntax.openings", "peculium/syntax.operators", "internal/bytealg.MaxLen"], loops := true, apart := false, laid := [("peculium/syntax.openings", laid_peculium_syntax_openings), ("peculium/syntax.operators", laid_peculium_syntax_operators)] }
def SyntaxPutsSaid : Prop := syntaxPutsRow.holds Tryz.pinned (OpenSpec.ofChange syntaxPutsSpec)

/-- ITS FALSE NEIGHBOUR: 'it returns false'. Refute it at one input. -/
def syntaxPutsWrong : ChangeSpec := { name := "syntaxPuts", fn := fun _ => fun
  | [d1, d2, d3] => { results := [.lit (.bool false)], args := [d1, d2, d3] }
  | _ => none }
def SyntaxPutsWrongFalsely : Prop := syntaxPutsRow.holds Tryz.pinned (OpenSpec.ofChange syntaxPutsWrong)

/-- 'peculiumlaw02.SyntaxPlain': WHATEVER THE INPUT: true; the input reads as it did. -/
def syntaxPlainSpec : ChangeSpec := { name := "syntaxPlain", fn := fun _ => fun
  | [d] => { results := [.lit (.bool true)], args := [d] }
  | _ => none }
def syntaxPlainRow : OpenClaim := { program := "ytgjijidlaghlmaagreatdoor", sum := "d10a64921fbd70026f5993d1475ff6d4d16890e33885dbc3753c367d9647bf1d", func := "peculium/peculiumlaw02.SyntaxPlain", spec := "syntaxPlain", inPlace := ["internal/bytealg.IndexByteString", "internal/bytealg.IndexString", "internal/abi.NoEscape"], unfollowed := true, recurses := true, named := ["peculium/syntax.openings", "peculium/syntax.operators", "internal/bytealg.MaxLen"], loops := true, apart := false, laid := [("peculium/syntax.openings", laid_peculium_syntax_openings), ("peculium/syntax.operators", laid_peculium_syntax_operators)] }
def SyntaxPlainSaid : Prop := syntaxPlainRow.holds Tryz.pinned (OpenSpec.ofChange syntaxPlainSpec)

/-- ITS FALSE NEIGHBOUR: 'it returns false'. Refute it at one input. -/
def syntaxPlainWrong : ChangeSpec := { name := "syntaxPlain", fn := fun _ => fun
  | [d] => { results := [.lit (.bool false)], args := [d] }
  | _ => none }
def SyntaxPlainWrongFalsely : Prop := syntaxPlainRow.holds Tryz.pinned (OpenSpec.ofChange syntaxPlainWrong)

/-- 'peculiumlaw02.SyntaxJoined': WHATEVER THE INPUT: true; the input reads as it did. -/
def syntaxJoinedSpec : ChangeSpec := { name := "syntaxJoined", fn := fun _ => fun
  | [d1, d2] => { results := [.lit (.bool true)], args := [d1, d2] }
  | _ => none }
def syntaxJoinedRow : OpenClaim := { program := "ytgjijidlaghlmaagreatdoor", sum := "d10a64921fbd70026f5993d1475ff6d4d16890e33885dbc3753c367d9647bf1d", func := "peculium/peculiumlaw02.SyntaxJoined", spec := "syntaxJoined", inPlace := ["internal/bytealg.IndexByteString", "internal/bytealg.IndexString", "internal/abi.NoEscape"], unfollowed := true, recurses := true, named := ["peculium/syntax.openings", "peculium/syntax.operators", "internal/bytealg.MaxLen"], apart := false, laid := [("peculium/syntax.openings", laid_peculium_syntax_openings), ("peculium/syntax.operators", laid_peculium_syntax_operators)] }
def SyntaxJoinedSaid : Prop := syntaxJoinedRow.holds Tryz.pinned (OpenSpec.ofChange syntaxJoinedSpec)

/-- ITS FALSE NEIGHBOUR: 'it returns false'. Refute it at one input. -/
def syntaxJoinedWrong : ChangeSpec := { name := "syntaxJoined", fn := fun _ => fun
  | [d1, d2] => { results := [.lit (.bool false)], args := [d1, d2] }
  | _ => none }
def SyntaxJoinedWrongFalsely : Prop := syntaxJoinedRow.holds Tryz.pinned (OpenSpec.ofChange syntaxJoinedWrong)

/-- 'peculiumlaw02.SyntaxEnds': WHATEVER THE INPUT: true; the input reads as it did. -/
def syntaxEndsSpec : ChangeSpec := { name := "syntaxEnds", fn := fun _ => fun
  | [d1, d2] => { results := [.lit (.bool true)], args := [d1, d2] }
  | _ => none }
def syntaxEndsRow : OpenClaim := { program := "ytgjijidlaghlmaagreatdoor", sum := "d10a64921fbd70026f5993d1475ff6d4d16890e33885dbc3753c367d9647bf1d", func := "peculium/peculiumlaw02.SyntaxEnds", spec := "syntaxEnds", inPlace := ["internal/bytealg.IndexByteString", "internal/bytealg.IndexString", "internal/abi.NoEscape"], unfollowed := true, recurses := true, named := ["peculium/syntax.openings", "peculium/syntax.operators", "internal/bytealg.MaxLen"], apart := false, laid := [("peculium/syntax.openings", laid_peculium_syntax_openings), ("peculium/syntax.operators", laid_peculium_syntax_operators)] }
def SyntaxEndsSaid : Prop := syntaxEndsRow.holds Tryz.pinned (OpenSpec.ofChange syntaxEndsSpec)

/-- ITS FALSE NEIGHBOUR: 'it returns false'. Refute it at one input. -/
def syntaxEndsWrong : ChangeSpec := { name := "syntaxEnds", fn := fun _ => fun
  | [d1, d2] => { results := [.lit (.bool false)], args := [d1, d2] }
  | _ => none }
def SyntaxEndsWrongFalsely : Prop := syntaxEndsRow.holds Tryz.pinned (OpenSpec.ofChange syntaxEndsWrong)

/- THE SECOND FORM. 'bulk': how many values and letters a reading holds, each counted each time it is reached (what is shared counts as often as it is met; a slice's spare places count too). A statement '..UptoSaid' is the law's where the arguments, and the package variables that the reading takes, are together of bulk at most 1048576: NARROWER than '..Said'. Prove '..Said' where nothing that the law and all that it calls make is longer than what came in: it says more and counts as full. Else prove '..UptoSaid'. A law counts once. -/
mutual
def uptoBulk {H : Type} : DataW H → Nat
  | .lit (.string bytes) => bytes.length + 1
  | .lit _ => 1
  | .nil => 1
  | .ptr d => uptoBulk d + 1
  | .slice elems spare => uptoBulkAll elems + uptoBulkAll spare + 1
  | .agg parts => uptoBulkAll parts + 1
  | .iface _ d => uptoBulk d + 1
  | .map entries => uptoBulkEntries entries + 1
  | .held _ => 1
def uptoBulkAll {H : Type} : List (DataW H) → Nat
  | [] => 0
  | d :: r => uptoBulk d + uptoBulkAll r
def uptoBulkEntries {H : Type} : List (Lit × DataW H) → Nat
  | [] => 0
  | x :: r => uptoBulkEntry x + uptoBulkEntries r
def uptoBulkEntry {H : Type} : Lit × DataW H → Nat
  | (.string bytes, d) => bytes.length + uptoBulk d + 1
  | (_, d) => uptoBulk d + 1
 end
def uptoSmall : (H : Type) → List (DataW H) → Bool := fun _ ds => decide (uptoBulkAll ds ≤ 1048576)
def OpenSpec.upto (s : _root_.Go.ChangeSpec) : _root_.Go.OpenSpec := { _root_.Go.OpenSpec.ofChange s with cond := some uptoSmall }

/-- 'peculiumlaw02.SyntaxParses', WHERE WHAT IT READS IS OF BULK AT MOST 1048576: true; the input reads as it did. -/
def syntaxParsesUptoRow : OpenClaim := { program := "ytgjijidlaghlmaagreatdoor", sum := "d10a64921fbd70026f5993d1475ff6d4d16890e33885dbc3753c367d9647bf1d", func := "peculium/peculiumlaw02.SyntaxParses", spec := "syntaxParses", inPlace := ["internal/bytealg.IndexByteString", "internal/bytealg.IndexString", "internal/abi.NoEscape"], unfollowed := true, recurses := true, named := ["peculium/syntax.openings", "peculium/syntax.operators", "internal/bytealg.MaxLen"], apart := false, laid := [("peculium/syntax.openings", laid_peculium_syntax_openings), ("peculium/syntax.operators", laid_peculium_syntax_operators)], narrowed := true }
def SyntaxParsesUptoSaid : Prop := syntaxParsesUptoRow.holds Tryz.pinned (OpenSpec.upto syntaxParsesSpec)

/-- 'peculiumlaw02.SyntaxChecks', WHERE WHAT IT READS IS OF BULK AT MOST 1048576: true; the input reads as it did. -/
def syntaxChecksUptoRow : OpenClaim := { program := "ytgjijidlaghlmaagreatdoor", sum := "d10a64921fbd70026f5993d1475ff6d4d16890e33885dbc3753c367d9647bf1d", func := "peculium/peculiumlaw02.SyntaxChecks", spec := "syntaxChecks", inPlace := ["internal/bytealg.IndexByteString", "internal/bytealg.IndexString", "internal/abi.NoEscape"], unfollowed := true, recurses := true, named := ["peculium/syntax.openings", "peculium/syntax.operators", "internal/bytealg.MaxLen"], loops := true, apart := false, laid := [("peculium/syntax.openings", laid_peculium_syntax_openings), ("peculium/syntax.operators", laid_peculium_syntax_operators)], narrowed := true }
def SyntaxChecksUptoSaid : Prop := syntaxChecksUptoRow.holds Tryz.pinned (OpenSpec.upto syntaxChecksSpec)

/-- 'peculiumlaw02.SyntaxPrints', WHERE WHAT IT READS IS OF BULK AT MOST 1048576: true; the input reads as it did. -/
def syntaxPrintsUptoRow : OpenClaim := { program := "ytgjijidlaghlmaagreatdoor", sum := "d10a64921fbd70026f5993d1475ff6d4d16890e33885dbc3753c367d9647bf1d", func := "peculium/peculiumlaw02.SyntaxPrints", spec := "syntaxPrints", inPlace := ["internal/bytealg.IndexByteString", "internal/bytealg.IndexString", "internal/abi.NoEscape", "internal/bytealg.CountString", "internal/bytealg.MakeNoZero"], unfollowed := true, recurses := true, named := ["peculium/syntax.openings", "peculium/syntax.operators", "internal/bytealg.MaxLen", "unicode/utf8.first", "unicode/utf8.acceptRanges"], loops := true, apart := false, laid := [("unicode/utf8.acceptRanges", laid_unicode_utf8_acceptRanges), ("peculium/syntax.openings", laid_peculium_syntax_openings), ("peculium/syntax.operators", laid_peculium_syntax_operators), ("unicode/utf8.first", laid_unicode_utf8_first)], narrowed := true }
def SyntaxPrintsUptoSaid : Prop := syntaxPrintsUptoRow.holds Tryz.pinned (OpenSpec.upto syntaxPrintsSpec)

/-- 'peculiumlaw02.SyntaxNames', WHERE WHAT IT READS IS OF BULK AT MOST 1048576: true; the input reads as it did. -/
def syntaxNamesUptoRow : OpenClaim := { program := "ytgjijidlaghlmaagreatdoor", sum := "d10a64921fbd70026f5993d1475ff6d4d16890e33885dbc3753c367d9647bf1d", func := "peculium/peculiumlaw02.SyntaxNames", spec := "syntaxNames", inPlace := ["internal/bytealg.IndexByteString", "internal/bytealg.IndexString", "internal/abi.NoEscape"], unfollowed := true, recurses := true, named := ["peculium/syntax.openings", "peculium/syntax.operators", "internal/bytealg.MaxLen"], loops := true, apart := false, laid := [("peculium/syntax.openings", laid_peculium_syntax_openings), ("peculium/syntax.operators", laid_peculium_syntax_operators)], narrowed := true }
def SyntaxNamesUptoSaid : Prop := syntaxNamesUptoRow.holds Tryz.pinned (OpenSpec.upto syntaxNamesSpec)

/-- 'peculiumlaw02.SyntaxPlaces', WHERE WHAT IT READS IS OF BULK AT MOST 1048576: true; the input reads as it did. -/
def syntaxPlacesUptoRow : OpenClaim := { program := "ytgjijidlaghlmaagreatdoor", sum := "d10a64921fbd70026f5993d1475ff6d4d16890e33885dbc3753c367d9647bf1d", func := "peculium/peculiumlaw02.SyntaxPlaces", spec := "syntaxPlaces", inPlace := ["internal/bytealg.IndexByteString", "internal/bytealg.IndexString", "internal/abi.NoEscape"], unfollowed := true, recurses := true, named := ["peculium/syntax.openings", "peculium/syntax.operators", "internal/bytealg.MaxLen"], loops := true, apart := false, laid := [("peculium/syntax.openings", laid_peculium_syntax_openings), ("peculium/syntax.operators", laid_peculium_syntax_operators)], narrowed := true }
def SyntaxPlacesUptoSaid : Prop := syntaxPlacesUptoRow.holds Tryz.pinned (OpenSpec.upto syntaxPlacesSpec)

/-- 'peculiumlaw02.SyntaxBack', WHERE WHAT IT READS IS OF BULK AT MOST 1048576: true; the input reads as it did. -/
def syntaxBackUptoRow : OpenClaim := { program := "ytgjijidlaghlmaagreatdoor", sum := "d10a64921fbd70026f5993d1475ff6d4d16890e33885dbc3753c367d9647bf1d", func := "peculium/peculiumlaw02.SyntaxBack", spec := "syntaxBack", inPlace := ["internal/bytealg.IndexByteString", "internal/bytealg.IndexString", "internal/abi.NoEscape", "internal/bytealg.CountString", "internal/bytealg.MakeNoZero"], unfollowed := true, recurses := true, named := ["peculium/syntax.openings", "peculium/syntax.operators", "internal/bytealg.MaxLen", "unicode/utf8.first", "unicode/utf8.acceptRanges"], loops := true, apart := false, laid := [("unicode/utf8.acceptRanges", laid_unicode_utf8_acceptRanges), ("peculium/syntax.openings", laid_peculium_syntax_openings), ("peculium/syntax.operators", laid_peculium_syntax_operators), ("unicode/utf8.first", laid_unicode_utf8_first)], narrowed := true }
def SyntaxBackUptoSaid : Prop := syntaxBackUptoRow.holds Tryz.pinned (OpenSpec.upto syntaxBackSpec)

/-- 'peculiumlaw02.SyntaxTokens', WHERE WHAT IT READS IS OF BULK AT MOST 1048576: true; the input reads as it did. -/
def syntaxTokensUptoRow : OpenClaim := { program := "ytgjijidlaghlmaagreatdoor", sum := "d10a64921fbd70026f5993d1475ff6d4d16890e33885dbc3753c367d9647bf1d", func := "peculium/peculiumlaw02.SyntaxTokens", spec := "syntaxTokens", inPlace := ["internal/bytealg.IndexByteString", "internal/bytealg.IndexString", "internal/abi.NoEscape"], unfollowed := true, recurses := true, named := ["peculium/syntax.openings", "peculium/syntax.operators", "internal/bytealg.MaxLen"], apart := false, laid := [("peculium/syntax.openings", laid_peculium_syntax_openings), ("peculium/syntax.operators", laid_peculium_syntax_operators)], narrowed := true }
def SyntaxTokensUptoSaid : Prop := syntaxTokensUptoRow.holds Tryz.pinned (OpenSpec.upto syntaxTokensSpec)

/-- 'peculiumlaw02.SyntaxLeast', WHERE WHAT IT READS IS OF BULK AT MOST 1048576: true; the input reads as it did. -/
def syntaxLeastUptoRow : OpenClaim := { program := "ytgjijidlaghlmaagreatdoor", sum := "d10a64921fbd70026f5993d1475ff6d4d16890e33885dbc3753c367d9647bf1d", func := "peculium/peculiumlaw02.SyntaxLeast", spec := "syntaxLeast", inPlace := ["internal/bytealg.IndexByteString", "internal/bytealg.IndexString", "internal/abi.NoEscape"], unfollowed := true, recurses := true, named := ["peculium/syntax.openings", "peculium/syntax.operators", "internal/bytealg.MaxLen"], loops := true, apart := false, laid := [("peculium/syntax.openings", laid_peculium_syntax_openings), ("peculium/syntax.operators", laid_peculium_syntax_operators)], narrowed := true }
def SyntaxLeastUptoSaid : Prop := syntaxLeastUptoRow.holds Tryz.pinned (OpenSpec.upto syntaxLeastSpec)

/-- 'peculiumlaw02.SyntaxLines', WHERE WHAT IT READS IS OF BULK AT MOST 1048576: true; the input reads as it did. -/
def syntaxLinesUptoRow : OpenClaim := { program := "ytgjijidlaghlmaagreatdoor", sum := "d10a64921fbd70026f5993d1475ff6d4d16890e33885dbc3753c367d9647bf1d", func := "peculium/peculiumlaw02.SyntaxLines", spec := "syntaxLines", inPlace := ["internal/bytealg.IndexByteString", "internal/bytealg.IndexString", "internal/abi.NoEscape", "internal/bytealg.CountString", "internal/bytealg.MakeNoZero"], unfollowed := true, recurses := true, named := ["peculium/syntax.openings", "peculium/syntax.operators", "internal/bytealg.MaxLen", "unicode/utf8.first", "unicode/utf8.acceptRanges"], loops := true, apart := false, laid := [("unicode/utf8.acceptRanges", laid_unicode_utf8_acceptRanges), ("peculium/syntax.openings", laid_peculium_syntax_openings), ("peculium/syntax.operators", laid_peculium_syntax_operators), ("unicode/utf8.first", laid_unicode_utf8_first)], narrowed := true }
def SyntaxLinesUptoSaid : Prop := syntaxLinesUptoRow.holds Tryz.pinned (OpenSpec.upto syntaxLinesSpec)

/-- 'peculiumlaw02.SyntaxRenames', WHERE WHAT IT READS IS OF BULK AT MOST 1048576: true; the input reads as it did. -/
def syntaxRenamesUptoRow : OpenClaim := { program := "ytgjijidlaghlmaagreatdoor", sum := "d10a64921fbd70026f5993d1475ff6d4d16890e33885dbc3753c367d9647bf1d", func := "peculium/peculiumlaw02.SyntaxRenames", spec := "syntaxRenames", inPlace := ["internal/bytealg.IndexByteString", "internal/bytealg.IndexString", "internal/abi.NoEscape"], unfollowed := true, recurses := true, named := ["peculium/syntax.openings", "peculium/syntax.operators", "internal/bytealg.MaxLen"], loops := true, apart := false, laid := [("peculium/syntax.openings", laid_peculium_syntax_openings), ("peculium/syntax.operators", laid_peculium_syntax_operators)], narrowed := true }
def SyntaxRenamesUptoSaid : Prop := syntaxRenamesUptoRow.holds Tryz.pinned (OpenSpec.upto syntaxRenamesSpec)

/-- 'peculiumlaw02.SyntaxPuts', WHERE WHAT IT READS IS OF BULK AT MOST 1048576: true; the input reads as it did. -/
def syntaxPutsUptoRow : OpenClaim := { program := "ytgjijidlaghlmaagreatdoor", sum := "d10a64921fbd70026f5993d1475ff6d4d16890e33885dbc3753c367d9647bf1d", func := "peculium/peculiumlaw02.SyntaxPuts", spec := "syntaxPuts", inPlace := ["internal/bytealg.IndexByteString", "internal/bytealg.IndexString", "internal/abi.NoEscape"], unfollowed := true, recurses := true, named := ["peculium/syntax.openings", "peculium/syntax.operators", "internal/bytealg.MaxLen"], loops := true, apart := false, laid := [("peculium/syntax.openings", laid_peculium_syntax_openings), ("peculium/syntax.operators", laid_peculium_syntax_operators)], narrowed := true }
def SyntaxPutsUptoSaid : Prop := syntaxPutsUptoRow.holds Tryz.pinned (OpenSpec.upto syntaxPutsSpec)

/-- 'peculiumlaw02.SyntaxPlain', WHERE WHAT IT READS IS OF BULK AT MOST 1048576: true; the input reads as it did. -/
def syntaxPlainUptoRow : OpenClaim := { program := "ytgjijidlaghlmaagreatdoor", sum := "d10a64921fbd70026f5993d1475ff6d4d16890e33885dbc3753c367d9647bf1d", func := "peculium/peculiumlaw02.SyntaxPlain", spec := "syntaxPlain", inPlace := ["internal/bytealg.IndexByteString", "internal/bytealg.IndexString", "internal/abi.NoEscape"], unfollowed := true, recurses := true, named := ["peculium/syntax.openings", "peculium/syntax.operators", "internal/bytealg.MaxLen"], loops := true, apart := false, laid := [("peculium/syntax.openings", laid_peculium_syntax_openings), ("peculium/syntax.operators", laid_peculium_syntax_operators)], narrowed := true }
def SyntaxPlainUptoSaid : Prop := syntaxPlainUptoRow.holds Tryz.pinned (OpenSpec.upto syntaxPlainSpec)

/-- 'peculiumlaw02.SyntaxJoined', WHERE WHAT IT READS IS OF BULK AT MOST 1048576: true; the input reads as it did. -/
def syntaxJoinedUptoRow : OpenClaim := { program := "ytgjijidlaghlmaagreatdoor", sum := "d10a64921fbd70026f5993d1475ff6d4d16890e33885dbc3753c367d9647bf1d", func := "peculium/peculiumlaw02.SyntaxJoined", spec := "syntaxJoined", inPlace := ["internal/bytealg.IndexByteString", "internal/bytealg.IndexString", "internal/abi.NoEscape"], unfollowed := true, recurses := true, named := ["peculium/syntax.openings", "peculium/syntax.operators", "internal/bytealg.MaxLen"], apart := false, laid := [("peculium/syntax.openings", laid_peculium_syntax_openings), ("peculium/syntax.operators", laid_peculium_syntax_operators)], narrowed := true }
def SyntaxJoinedUptoSaid : Prop := syntaxJoinedUptoRow.holds Tryz.pinned (OpenSpec.upto syntaxJoinedSpec)

/-- 'peculiumlaw02.SyntaxEnds', WHERE WHAT IT READS IS OF BULK AT MOST 1048576: true; the input reads as it did. -/
def syntaxEndsUptoRow : OpenClaim := { program := "ytgjijidlaghlmaagreatdoor", sum := "d10a64921fbd70026f5993d1475ff6d4d16890e33885dbc3753c367d9647bf1d", func := "peculium/peculiumlaw02.SyntaxEnds", spec := "syntaxEnds", inPlace := ["internal/bytealg.IndexByteString", "internal/bytealg.IndexString", "internal/abi.NoEscape"], unfollowed := true, recurses := true, named := ["peculium/syntax.openings", "peculium/syntax.operators", "internal/bytealg.MaxLen"], apart := false, laid := [("peculium/syntax.openings", laid_peculium_syntax_openings), ("peculium/syntax.operators", laid_peculium_syntax_operators)], narrowed := true }
def SyntaxEndsUptoSaid : Prop := syntaxEndsUptoRow.holds Tryz.pinned (OpenSpec.upto syntaxEndsSpec)

end Rows
end Go.Proofs.YtgjijidlaghlmaaGreatDoor
