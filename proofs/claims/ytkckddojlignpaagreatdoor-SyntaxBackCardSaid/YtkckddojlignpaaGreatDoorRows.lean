/-
  NARROWER THAN 'FOR EVERY INPUT', by the rows' own cells (each row's printed sentence says how): SyntaxParses: laid · SyntaxPrints: loops, laid · SyntaxNames: loops, laid · SyntaxBack: loops, laid · SyntaxLines: loops, laid.
  DERIVED. THE GIVEN ROWS OF THIS SEAT. 5 by the template 'for every input the law returns true; each argument reads behind the call as it read before'; 0 by the template 'total and deterministic' (their statements: YtkckddojlignpaaGreatDoorTotals.lean).
  GIVEN WITH THE SEED: the statements are not yours to turn. If you find one false, say at which input.
  Laid BY PROGRAM, IN A SANDBOX (cutbox-rows.mjs): the forced cells as the released guide's own fill.sh prints them over the translation 468412649e7a9eff… (all of the seat's roots in one cut). By AI agents, Wed Nov 11 2026. No macro, syntax, notation, axiom, sorry.
-/
import Derived.Test.YtkckddojlignpaaGreatDoorChecked
import GoSem.PinnedTables
import GoSem.Claim
import GoSem.ClaimJoined
import GoSem.ClaimMapViews
import Derived.JoinedTies
import Derived.KernelRfl
namespace Go.Proofs.YtkckddojlignpaaGreatDoor
/- THE CELL 'sum', in the pinned program and in every row, IS THE sha256 OF THE DUMP (.gsa) THAT YtkckddojlignpaaGreatDoorProg.lean LOADS. Nothing in Lean hashes anything: it is a label: what it is worth is what the hold of that sum in a sandbox is worth. -/
noncomputable def Tryz.pinned : Pinned := { name := "ytkckddojlignpaagreatdoor", sum := "468412649e7a9eff3a68b7f18755971a43ee299dc0503318b3cbd926f1e59e1c", checked := Tryz.checked }
namespace Rows
def none {H : Type} : Left H := { results := [], args := [] }

/- WHAT THE LISTED PACKAGE-LEVEL VARIABLES READ AS WHEN THE CALL BEGINS. Each datum BY PROGRAM (the guide's laid-datum.mjs) off the statement by which the dump's own 'gosem.cut.vars' lays the variable. In a bare row this is a premise. The card (YtkckddojlignpaaGreatDoorCards.lean) ties it to the program's text. -/
def laid_peculium_syntax_openings {H : Type} : DataW H := .agg [.agg [.lit (.string [116, 121, 112, 101]), .lit (.int .i64 2)], .agg [.lit (.string [101, 120, 112, 111, 114, 116]), .lit (.int .i64 14)], .agg [.lit (.string [99, 111, 110, 115, 116]), .lit (.int .i64 3)], .agg [.lit (.string [112, 114, 101, 100]), .lit (.int .i64 4)], .agg [.lit (.string [102, 97, 99, 116]), .lit (.int .i64 5)], .agg [.lit (.string [108, 97, 115, 116, 105, 110, 103]), .lit (.int .i64 6)], .agg [.lit (.string [109, 111, 100, 101]), .lit (.int .i64 7)], .agg [.lit (.string [114, 117, 108, 101]), .lit (.int .i64 8)], .agg [.lit (.string [111, 110, 99, 101]), .lit (.int .i64 9)], .agg [.lit (.string [109, 111, 115, 116]), .lit (.int .i64 10)], .agg [.lit (.string [113, 117, 101, 114, 121]), .lit (.int .i64 11)], .agg [.lit (.string [109, 111, 100, 117, 108, 101]), .lit (.int .i64 12)], .agg [.lit (.string [117, 115, 101]), .lit (.int .i64 13)], .agg [.lit (.string [33]), .lit (.int .i64 29)], .agg [.lit (.string [97, 108, 108]), .lit (.int .i64 18)], .agg [.lit (.string [101, 120]), .lit (.int .i64 19)], .agg [.lit (.string [111, 110, 101]), .lit (.int .i64 20)], .agg [.lit (.string [116, 111, 112]), .lit (.int .i64 21)], .agg [.lit (.string [123]), .lit (.int .i64 30)], .agg [.lit (.string [92]), .lit (.int .i64 17)]]
def laid_peculium_syntax_operators {H : Type} : DataW H := .agg [.agg [.lit (.string [111, 45]), .lit (.int .i64 27), .lit (.int .i64 0)], .agg [.lit (.string [60, 61]), .lit (.int .i64 28), .lit (.int .i64 0)], .agg [.lit (.string [45, 111]), .lit (.int .i64 25), .lit (.int .i64 1)], .agg [.lit (.string [61, 62]), .lit (.int .i64 26), .lit (.int .i64 1)], .agg [.lit (.string [43]), .lit (.int .i64 24), .lit (.int .i64 2)], .agg [.lit (.string [38]), .lit (.int .i64 23), .lit (.int .i64 3)], .agg [.lit (.string [42]), .lit (.int .i64 22), .lit (.int .i64 4)], .agg [.lit (.string [45, 62]), .lit (.int .i64 31), .lit (.int .i64 6)]]
def laid_unicode_utf8_acceptRanges {H : Type} : DataW H := .agg [.agg [.lit (.int .u8 128), .lit (.int .u8 191)], .agg [.lit (.int .u8 160), .lit (.int .u8 191)], .agg [.lit (.int .u8 128), .lit (.int .u8 159)], .agg [.lit (.int .u8 144), .lit (.int .u8 191)], .agg [.lit (.int .u8 128), .lit (.int .u8 143)], .agg [.lit (.int .u8 0), .lit (.int .u8 0)], .agg [.lit (.int .u8 0), .lit (.int .u8 0)], .agg [.lit (.int .u8 0), .lit (.int .u8 0)], .agg [.lit (.int .u8 0), .lit (.int .u8 0)], .agg [.lit (.int .u8 0), .lit (.int .u8 0)], .agg [.lit (.int .u8 0), .lit (.int .u8 0)], .agg [.lit (.int .u8 0), .lit (.int .u8 0)], .agg [.lit (.int .u8 0), .lit (.int .u8 0)], .agg [.lit (.int .u8 0), .lit (.int .u8 0)], .agg [.lit (.int .u8 0), .lit (.int .u8 0)], .agg [.lit (.int .u8 0), .lit (.int .u8 0)]]
/-- One of Go's own tables, pinned by name: the form's constant. -/
def laid_unicode_utf8_first : DataW Unit := Go.Pinned.utf8First

/-- 'peculiumlaw02.SyntaxParses': WHATEVER THE INPUT: true; the input reads as it did. -/
def syntaxParsesSpec : ChangeSpec := { name := "syntaxParses", fn := fun _ => fun
  | [d] => { results := [.lit (.bool true)], args := [d] }
  | _ => none }
def syntaxParsesRow : OpenClaim := { program := "ytkckddojlignpaagreatdoor", sum := "468412649e7a9eff3a68b7f18755971a43ee299dc0503318b3cbd926f1e59e1c", func := "peculium/peculiumlaw02.SyntaxParses", spec := "syntaxParses", inPlace := ["internal/bytealg.IndexByteString", "internal/bytealg.IndexString", "internal/abi.NoEscape"], unfollowed := true, recurses := true, named := ["peculium/syntax.openings", "peculium/syntax.operators", "internal/bytealg.MaxLen"], apart := false, laid := [("peculium/syntax.openings", laid_peculium_syntax_openings), ("peculium/syntax.operators", laid_peculium_syntax_operators)] }
def SyntaxParsesSaid : Prop := syntaxParsesRow.holds Tryz.pinned (OpenSpec.ofChange syntaxParsesSpec)

/-- ITS FALSE NEIGHBOUR: 'it returns false'. Refute it at one input. -/
def syntaxParsesWrong : ChangeSpec := { name := "syntaxParses", fn := fun _ => fun
  | [d] => { results := [.lit (.bool false)], args := [d] }
  | _ => none }
def SyntaxParsesWrongFalsely : Prop := syntaxParsesRow.holds Tryz.pinned (OpenSpec.ofChange syntaxParsesWrong)

/-- 'peculiumlaw02.SyntaxPrints': WHATEVER THE INPUT: true; the input reads as it did. -/
def syntaxPrintsSpec : ChangeSpec := { name := "syntaxPrints", fn := fun _ => fun
  | [d1, d2] => { results := [.lit (.bool true)], args := [d1, d2] }
  | _ => none }
def syntaxPrintsRow : OpenClaim := { program := "ytkckddojlignpaagreatdoor", sum := "468412649e7a9eff3a68b7f18755971a43ee299dc0503318b3cbd926f1e59e1c", func := "peculium/peculiumlaw02.SyntaxPrints", spec := "syntaxPrints", inPlace := ["internal/bytealg.IndexByteString", "internal/bytealg.IndexString", "internal/abi.NoEscape", "internal/bytealg.CountString", "internal/bytealg.MakeNoZero"], unfollowed := true, recurses := true, named := ["peculium/syntax.openings", "peculium/syntax.operators", "internal/bytealg.MaxLen", "unicode/utf8.first", "unicode/utf8.acceptRanges"], loops := true, apart := false, laid := [("unicode/utf8.acceptRanges", laid_unicode_utf8_acceptRanges), ("peculium/syntax.openings", laid_peculium_syntax_openings), ("peculium/syntax.operators", laid_peculium_syntax_operators), ("unicode/utf8.first", laid_unicode_utf8_first)] }
def SyntaxPrintsSaid : Prop := syntaxPrintsRow.holds Tryz.pinned (OpenSpec.ofChange syntaxPrintsSpec)

/-- ITS FALSE NEIGHBOUR: 'it returns false'. Refute it at one input. -/
def syntaxPrintsWrong : ChangeSpec := { name := "syntaxPrints", fn := fun _ => fun
  | [d1, d2] => { results := [.lit (.bool false)], args := [d1, d2] }
  | _ => none }
def SyntaxPrintsWrongFalsely : Prop := syntaxPrintsRow.holds Tryz.pinned (OpenSpec.ofChange syntaxPrintsWrong)

/-- 'peculiumlaw02.SyntaxNames': WHATEVER THE INPUT: true; the input reads as it did. -/
def syntaxNamesSpec : ChangeSpec := { name := "syntaxNames", fn := fun _ => fun
  | [d1, d2, d3] => { results := [.lit (.bool true)], args := [d1, d2, d3] }
  | _ => none }
def syntaxNamesRow : OpenClaim := { program := "ytkckddojlignpaagreatdoor", sum := "468412649e7a9eff3a68b7f18755971a43ee299dc0503318b3cbd926f1e59e1c", func := "peculium/peculiumlaw02.SyntaxNames", spec := "syntaxNames", inPlace := ["internal/bytealg.IndexByteString", "internal/bytealg.IndexString", "internal/abi.NoEscape"], unfollowed := true, recurses := true, named := ["peculium/syntax.openings", "peculium/syntax.operators", "internal/bytealg.MaxLen"], loops := true, apart := false, laid := [("peculium/syntax.openings", laid_peculium_syntax_openings), ("peculium/syntax.operators", laid_peculium_syntax_operators)] }
def SyntaxNamesSaid : Prop := syntaxNamesRow.holds Tryz.pinned (OpenSpec.ofChange syntaxNamesSpec)

/-- ITS FALSE NEIGHBOUR: 'it returns false'. Refute it at one input. -/
def syntaxNamesWrong : ChangeSpec := { name := "syntaxNames", fn := fun _ => fun
  | [d1, d2, d3] => { results := [.lit (.bool false)], args := [d1, d2, d3] }
  | _ => none }
def SyntaxNamesWrongFalsely : Prop := syntaxNamesRow.holds Tryz.pinned (OpenSpec.ofChange syntaxNamesWrong)

/-- 'peculiumlaw02.SyntaxBack': WHATEVER THE INPUT: true; the input reads as it did. -/
def syntaxBackSpec : ChangeSpec := { name := "syntaxBack", fn := fun _ => fun
  | [d1, d2] => { results := [.lit (.bool true)], args := [d1, d2] }
  | _ => none }
def syntaxBackRow : OpenClaim := { program := "ytkckddojlignpaagreatdoor", sum := "468412649e7a9eff3a68b7f18755971a43ee299dc0503318b3cbd926f1e59e1c", func := "peculium/peculiumlaw02.SyntaxBack", spec := "syntaxBack", inPlace := ["internal/bytealg.IndexByteString", "internal/bytealg.IndexString", "internal/abi.NoEscape", "internal/bytealg.CountString", "internal/bytealg.MakeNoZero"], unfollowed := true, recurses := true, named := ["peculium/syntax.openings", "peculium/syntax.operators", "internal/bytealg.MaxLen", "unicode/utf8.first", "unicode/utf8.acceptRanges"], loops := true, apart := false, laid := [("unicode/utf8.acceptRanges", laid_unicode_utf8_acceptRanges), ("peculium/syntax.openings", laid_peculium_syntax_openings), ("peculium/syntax.operators", laid_peculium_syntax_operators), ("unicode/utf8.first", laid_unicode_utf8_first)] }
def SyntaxBackSaid : Prop := syntaxBackRow.holds Tryz.pinned (OpenSpec.ofChange syntaxBackSpec)

/-- ITS FALSE NEIGHBOUR: 'it returns false'. Refute it at one input. -/
def syntaxBackWrong : ChangeSpec := { name := "syntaxBack", fn := fun _ => fun
  | [d1, d2] => { results := [.lit (.bool false)], args := [d1, d2] }
  | _ => none }
def SyntaxBackWrongFalsely : Prop := syntaxBackRow.holds Tryz.pinned (OpenSpec.ofChange syntaxBackWrong)

/-- 'peculiumlaw02.SyntaxLines': WHATEVER THE INPUT: true; the input reads as it did. -/
def syntaxLinesSpec : ChangeSpec := { name := "syntaxLines", fn := fun _ => fun
  | [d1, d2] => { results := [.lit (.bool true)], args := [d1, d2] }
  | _ => none }
def syntaxLinesRow : OpenClaim := { program := "ytkckddojlignpaagreatdoor", sum := "468412649e7a9eff3a68b7f18755971a43ee299dc0503318b3cbd926f1e59e1c", func := "peculium/peculiumlaw02.SyntaxLines", spec := "syntaxLines", inPlace := ["internal/bytealg.IndexByteString", "internal/bytealg.IndexString", "internal/abi.NoEscape", "internal/bytealg.CountString", "internal/bytealg.MakeNoZero"], unfollowed := true, recurses := true, named := ["peculium/syntax.openings", "peculium/syntax.operators", "internal/bytealg.MaxLen", "unicode/utf8.first", "unicode/utf8.acceptRanges"], loops := true, apart := false, laid := [("unicode/utf8.acceptRanges", laid_unicode_utf8_acceptRanges), ("peculium/syntax.openings", laid_peculium_syntax_openings), ("peculium/syntax.operators", laid_peculium_syntax_operators), ("unicode/utf8.first", laid_unicode_utf8_first)] }
def SyntaxLinesSaid : Prop := syntaxLinesRow.holds Tryz.pinned (OpenSpec.ofChange syntaxLinesSpec)

/-- ITS FALSE NEIGHBOUR: 'it returns false'. Refute it at one input. -/
def syntaxLinesWrong : ChangeSpec := { name := "syntaxLines", fn := fun _ => fun
  | [d1, d2] => { results := [.lit (.bool false)], args := [d1, d2] }
  | _ => none }
def SyntaxLinesWrongFalsely : Prop := syntaxLinesRow.holds Tryz.pinned (OpenSpec.ofChange syntaxLinesWrong)

/- THE SECOND FORM. 'bulk': how many values and letters a reading holds, each counted each time it is reached (what is shared counts as often as it is met; a slice's spare places count too). A statement '..UptoSaid' is the law's where the arguments, and the package variables that the reading takes, are together of bulk at most 1048576: NARROWER than '..Said'. Prove '..Said' where nothing that the law and all that it calls make is longer than what came in: it says more and counts as full. Else prove '..UptoSaid'. A law counts once. -/
mutual
def uptoBulk {H : Type} : DataW H → Nat
  | .lit (.string bytes) => bytes.length + 1
  | .lit _ => 1
  | .nil => 1
  | .ptr d => uptoBulk d + 1
  | .slice elems spare => uptoBulkAll elems + uptoBulkAll spare + 1
  | .agg parts => uptoBulkAll parts + 1
  | .iface _ d => uptoBulk d + 1
  | .map entries => uptoBulkEntries entries + 1
  | .held _ => 1
def uptoBulkAll {H : Type} : List (DataW H) → Nat
  | [] => 0
  | d :: r => uptoBulk d + uptoBulkAll r
def uptoBulkEntries {H : Type} : List (Lit × DataW H) → Nat
  | [] => 0
  | x :: r => uptoBulkEntry x + uptoBulkEntries r
def uptoBulkEntry {H : Type} : Lit × DataW H → Nat
  | (.string bytes, d) => bytes.length + uptoBulk d + 1
  | (_, d) => uptoBulk d + 1
 end
def uptoSmall : (H : Type) → List (DataW H) → Bool := fun _ ds => decide (uptoBulkAll ds ≤ 1048576)
def OpenSpec.upto (s : _root_.Go.ChangeSpec) : _root_.Go.OpenSpec := { _root_.Go.OpenSpec.ofChange s with cond := some uptoSmall }

/-- 'peculiumlaw02.SyntaxParses', WHERE WHAT IT READS IS OF BULK AT MOST 1048576: true; the input reads as it did. -/
def syntaxParsesUptoRow : OpenClaim := { program := "ytkckddojlignpaagreatdoor", sum := "468412649e7a9eff3a68b7f18755971a43ee299dc0503318b3cbd926f1e59e1c", func := "peculium/peculiumlaw02.SyntaxParses", spec := "syntaxParses", inPlace := ["internal/bytealg.IndexByteString", "internal/bytealg.IndexString", "internal/abi.NoEscape"], unfollowed := true, recurses := true, named := ["peculium/syntax.openings", "peculium/syntax.operators", "internal/bytealg.MaxLen"], apart := false, laid := [("peculium/syntax.openings", laid_peculium_syntax_openings), ("peculium/syntax.operators", laid_peculium_syntax_operators)], narrowed := true }
def SyntaxParsesUptoSaid : Prop := syntaxParsesUptoRow.holds Tryz.pinned (OpenSpec.upto syntaxParsesSpec)

/-- 'peculiumlaw02.SyntaxPrints', WHERE WHAT IT READS IS OF BULK AT MOST 1048576: true; the input reads as it did. -/
def syntaxPrintsUptoRow : OpenClaim := { program := "ytkckddojlignpaagreatdoor", sum := "468412649e7a9eff3a68b7f18755971a43ee299dc0503318b3cbd926f1e59e1c", func := "peculium/peculiumlaw02.SyntaxPrints", spec := "syntaxPrints", inPlace := ["internal/bytealg.IndexByteString", "internal/bytealg.IndexString", "internal/abi.NoEscape", "internal/bytealg.CountString", "internal/bytealg.MakeNoZero"], unfollowed := true, recurses := true, named := ["peculium/syntax.openings", "peculium/syntax.operators", "internal/bytealg.MaxLen", "unicode/utf8.first", "unicode/utf8.acceptRanges"], loops := true, apart := false, laid := [("unicode/utf8.acceptRanges", laid_unicode_utf8_acceptRanges), ("peculium/syntax.openings", laid_peculium_syntax_openings), ("peculium/syntax.operators", laid_peculium_syntax_operators), ("unicode/utf8.first", laid_unicode_utf8_first)], narrowed := true }
def SyntaxPrintsUptoSaid : Prop := syntaxPrintsUptoRow.holds Tryz.pinned (OpenSpec.upto syntaxPrintsSpec)

/-- 'peculiumlaw02.SyntaxNames', WHERE WHAT IT READS IS OF BULK AT MOST 1048576: true; the input reads as it did. -/
def syntaxNamesUptoRow : OpenClaim := { program := "ytkckddojlignpaagreatdoor", sum := "468412649e7a9eff3a68b7f18755971a43ee299dc0503318b3cbd926f1e59e1c", func := "peculium/peculiumlaw02.SyntaxNames", spec := "syntaxNames", inPlace := ["internal/bytealg.IndexByteString", "internal/bytealg.IndexString", "internal/abi.NoEscape"], unfollowed := true, recurses := true, named := ["peculium/syntax.openings", "peculium/syntax.operators", "internal/bytealg.MaxLen"], loops := true, apart := false, laid := [("peculium/syntax.openings", laid_peculium_syntax_openings), ("peculium/syntax.operators", laid_peculium_syntax_operators)], narrowed := true }
def SyntaxNamesUptoSaid : Prop := syntaxNamesUptoRow.holds Tryz.pinned (OpenSpec.upto syntaxNamesSpec)

/-- 'peculiumlaw02.SyntaxBack', WHERE WHAT IT READS IS OF BULK AT MOST 1048576: true; the input reads as it did. -/
def syntaxBackUptoRow : OpenClaim := { program := "ytkckddojlignpaagreatdoor", sum := "468412649e7a9eff3a68b7f18755971a43ee299dc0503318b3cbd926f1e59e1c", func := "peculium/peculiumlaw02.SyntaxBack", spec := "syntaxBack", inPlace := ["internal/bytealg.IndexByteString", "internal/bytealg.IndexString", "internal/abi.NoEscape", "internal/bytealg.CountString", "internal/bytealg.MakeNoZero"], unfollowed := true, recurses := true, named := ["peculium/syntax.openings", "peculium/syntax.operators", "internal/bytealg.MaxLen", "unicode/utf8.first", "unicode/utf8.acceptRanges"], loops := true, apart := false, laid := [("unicode/utf8.acceptRanges", laid_unicode_utf8_acceptRanges), ("peculium/syntax.openings", laid_peculium_syntax_openings), ("peculium/syntax.operators", laid_peculium_syntax_operators), ("unicode/utf8.first", laid_unicode_utf8_first)], narrowed := true }
def SyntaxBackUptoSaid : Prop := syntaxBackUptoRow.holds Tryz.pinned (OpenSpec.upto syntaxBackSpec)

/-- 'peculiumlaw02.SyntaxLines', WHERE WHAT IT READS IS OF BULK AT MOST 1048576: true; the input reads as it did. -/
def syntaxLinesUptoRow : OpenClaim := { program := "ytkckddojlignpaagreatdoor", sum := "468412649e7a9eff3a68b7f18755971a43ee299dc0503318b3cbd926f1e59e1c", func := "peculium/peculiumlaw02.SyntaxLines", spec := "syntaxLines", inPlace := ["internal/bytealg.IndexByteString", "internal/bytealg.IndexString", "internal/abi.NoEscape", "internal/bytealg.CountString", "internal/bytealg.MakeNoZero"], unfollowed := true, recurses := true, named := ["peculium/syntax.openings", "peculium/syntax.operators", "internal/bytealg.MaxLen", "unicode/utf8.first", "unicode/utf8.acceptRanges"], loops := true, apart := false, laid := [("unicode/utf8.acceptRanges", laid_unicode_utf8_acceptRanges), ("peculium/syntax.openings", laid_peculium_syntax_openings), ("peculium/syntax.operators", laid_peculium_syntax_operators), ("unicode/utf8.first", laid_unicode_utf8_first)], narrowed := true }
def SyntaxLinesUptoSaid : Prop := syntaxLinesUptoRow.holds Tryz.pinned (OpenSpec.upto syntaxLinesSpec)

end Rows
end Go.Proofs.YtkckddojlignpaaGreatDoor
