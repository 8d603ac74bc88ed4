/-
  DERIVED. GIVEN WITH THE SEED: THE CARDS: each row of YtgjijidlaghlmaaGreatDoorRows.lean that lists a variable, with what it lists TIED to the program's text (the seventh form; the later family's looks); each row that meets fmt, with fmt's text TOLD by the authors' own Lean function (tested against real Go, not proved from fmt's source: count such statements apart). THE CARD IS WHAT COUNTS. Prove the row's statement (the work); the ties are given (YtgjijidlaghlmaaGreatDoorTie.lean); close each card by the builder's one call (the guide's Derived/Test/ToyasCard.lean, 'card_holds'). Laid BY PROGRAM, IN A SANDBOX (cutbox-door.mjs). By AI agents, Wed Nov 11 2026. No macro, syntax, notation, axiom, sorry.
-/
import Derived.Test.YtgjijidlaghlmaaGreatDoorRows
import GoSem.ClaimSeven
namespace Go.Proofs.YtgjijidlaghlmaaGreatDoor
namespace Rows

/-- THE TIED CARD OF 'peculiumlaw02.SyntaxParses'. -/
def syntaxParsesCard : Claim7 := { stood := { row := syntaxParsesRow, standIns := [], harness := (true, "3819f459871053e60411e8b391282edd0418ace8bc5ca90b4f14bee7f3b40525"), looks := true }, kinds := [], alts := [], laidByText := true, laidKinds := [.data, .data], laidTests := true, laidLooks := .later }
def SyntaxParsesCardSaid : Prop := Claim7.holds Tryz.pinned (.plain (OpenSpec.ofChange syntaxParsesSpec)) syntaxParsesCard

/-- THE TIED CARD OF 'peculiumlaw02.SyntaxChecks'. -/
def syntaxChecksCard : Claim7 := { stood := { row := syntaxChecksRow, standIns := [], harness := (true, "3819f459871053e60411e8b391282edd0418ace8bc5ca90b4f14bee7f3b40525"), looks := true }, kinds := [], alts := [], laidByText := true, laidKinds := [.data, .data], laidTests := true, laidLooks := .later }
def SyntaxChecksCardSaid : Prop := Claim7.holds Tryz.pinned (.plain (OpenSpec.ofChange syntaxChecksSpec)) syntaxChecksCard

/-- THE TIED CARD OF 'peculiumlaw02.SyntaxPrints'. -/
def syntaxPrintsCard : Claim7 := { stood := { row := syntaxPrintsRow, standIns := [], harness := (true, "3819f459871053e60411e8b391282edd0418ace8bc5ca90b4f14bee7f3b40525"), looks := true }, kinds := [], alts := [], laidByText := true, laidKinds := [.data, .data, .data, .pinned], laidTests := true, laidLooks := .later }
def SyntaxPrintsCardSaid : Prop := Claim7.holds Tryz.pinned (.plain (OpenSpec.ofChange syntaxPrintsSpec)) syntaxPrintsCard

/-- THE TIED CARD OF 'peculiumlaw02.SyntaxNames'. -/
def syntaxNamesCard : Claim7 := { stood := { row := syntaxNamesRow, standIns := [], harness := (true, "3819f459871053e60411e8b391282edd0418ace8bc5ca90b4f14bee7f3b40525"), looks := true }, kinds := [], alts := [], laidByText := true, laidKinds := [.data, .data], laidTests := true, laidLooks := .later }
def SyntaxNamesCardSaid : Prop := Claim7.holds Tryz.pinned (.plain (OpenSpec.ofChange syntaxNamesSpec)) syntaxNamesCard

/-- THE TIED CARD OF 'peculiumlaw02.SyntaxPlaces'. -/
def syntaxPlacesCard : Claim7 := { stood := { row := syntaxPlacesRow, standIns := [], harness := (true, "3819f459871053e60411e8b391282edd0418ace8bc5ca90b4f14bee7f3b40525"), looks := true }, kinds := [], alts := [], laidByText := true, laidKinds := [.data, .data], laidTests := true, laidLooks := .later }
def SyntaxPlacesCardSaid : Prop := Claim7.holds Tryz.pinned (.plain (OpenSpec.ofChange syntaxPlacesSpec)) syntaxPlacesCard

/-- THE TIED CARD OF 'peculiumlaw02.SyntaxBack'. -/
def syntaxBackCard : Claim7 := { stood := { row := syntaxBackRow, standIns := [], harness := (true, "3819f459871053e60411e8b391282edd0418ace8bc5ca90b4f14bee7f3b40525"), looks := true }, kinds := [], alts := [], laidByText := true, laidKinds := [.data, .data, .data, .pinned], laidTests := true, laidLooks := .later }
def SyntaxBackCardSaid : Prop := Claim7.holds Tryz.pinned (.plain (OpenSpec.ofChange syntaxBackSpec)) syntaxBackCard

/-- THE TIED CARD OF 'peculiumlaw02.SyntaxTokens'. -/
def syntaxTokensCard : Claim7 := { stood := { row := syntaxTokensRow, standIns := [], harness := (true, "3819f459871053e60411e8b391282edd0418ace8bc5ca90b4f14bee7f3b40525"), looks := true }, kinds := [], alts := [], laidByText := true, laidKinds := [.data, .data], laidTests := true, laidLooks := .later }
def SyntaxTokensCardSaid : Prop := Claim7.holds Tryz.pinned (.plain (OpenSpec.ofChange syntaxTokensSpec)) syntaxTokensCard

/-- THE TIED CARD OF 'peculiumlaw02.SyntaxLeast'. -/
def syntaxLeastCard : Claim7 := { stood := { row := syntaxLeastRow, standIns := [], harness := (true, "3819f459871053e60411e8b391282edd0418ace8bc5ca90b4f14bee7f3b40525"), looks := true }, kinds := [], alts := [], laidByText := true, laidKinds := [.data, .data], laidTests := true, laidLooks := .later }
def SyntaxLeastCardSaid : Prop := Claim7.holds Tryz.pinned (.plain (OpenSpec.ofChange syntaxLeastSpec)) syntaxLeastCard

/-- THE TIED CARD OF 'peculiumlaw02.SyntaxLines'. -/
def syntaxLinesCard : Claim7 := { stood := { row := syntaxLinesRow, standIns := [], harness := (true, "3819f459871053e60411e8b391282edd0418ace8bc5ca90b4f14bee7f3b40525"), looks := true }, kinds := [], alts := [], laidByText := true, laidKinds := [.data, .data, .data, .pinned], laidTests := true, laidLooks := .later }
def SyntaxLinesCardSaid : Prop := Claim7.holds Tryz.pinned (.plain (OpenSpec.ofChange syntaxLinesSpec)) syntaxLinesCard

/-- THE TIED CARD OF 'peculiumlaw02.SyntaxRenames'. -/
def syntaxRenamesCard : Claim7 := { stood := { row := syntaxRenamesRow, standIns := [], harness := (true, "3819f459871053e60411e8b391282edd0418ace8bc5ca90b4f14bee7f3b40525"), looks := true }, kinds := [], alts := [], laidByText := true, laidKinds := [.data, .data], laidTests := true, laidLooks := .later }
def SyntaxRenamesCardSaid : Prop := Claim7.holds Tryz.pinned (.plain (OpenSpec.ofChange syntaxRenamesSpec)) syntaxRenamesCard

/-- THE TIED CARD OF 'peculiumlaw02.SyntaxPuts'. -/
def syntaxPutsCard : Claim7 := { stood := { row := syntaxPutsRow, standIns := [], harness := (true, "3819f459871053e60411e8b391282edd0418ace8bc5ca90b4f14bee7f3b40525"), looks := true }, kinds := [], alts := [], laidByText := true, laidKinds := [.data, .data], laidTests := true, laidLooks := .later }
def SyntaxPutsCardSaid : Prop := Claim7.holds Tryz.pinned (.plain (OpenSpec.ofChange syntaxPutsSpec)) syntaxPutsCard

/-- THE TIED CARD OF 'peculiumlaw02.SyntaxPlain'. -/
def syntaxPlainCard : Claim7 := { stood := { row := syntaxPlainRow, standIns := [], harness := (true, "3819f459871053e60411e8b391282edd0418ace8bc5ca90b4f14bee7f3b40525"), looks := true }, kinds := [], alts := [], laidByText := true, laidKinds := [.data, .data], laidTests := true, laidLooks := .later }
def SyntaxPlainCardSaid : Prop := Claim7.holds Tryz.pinned (.plain (OpenSpec.ofChange syntaxPlainSpec)) syntaxPlainCard

/-- THE TIED CARD OF 'peculiumlaw02.SyntaxJoined'. -/
def syntaxJoinedCard : Claim7 := { stood := { row := syntaxJoinedRow, standIns := [], harness := (true, "3819f459871053e60411e8b391282edd0418ace8bc5ca90b4f14bee7f3b40525"), looks := true }, kinds := [], alts := [], laidByText := true, laidKinds := [.data, .data], laidTests := true, laidLooks := .later }
def SyntaxJoinedCardSaid : Prop := Claim7.holds Tryz.pinned (.plain (OpenSpec.ofChange syntaxJoinedSpec)) syntaxJoinedCard

/-- THE TIED CARD OF 'peculiumlaw02.SyntaxEnds'. -/
def syntaxEndsCard : Claim7 := { stood := { row := syntaxEndsRow, standIns := [], harness := (true, "3819f459871053e60411e8b391282edd0418ace8bc5ca90b4f14bee7f3b40525"), looks := true }, kinds := [], alts := [], laidByText := true, laidKinds := [.data, .data], laidTests := true, laidLooks := .later }
def SyntaxEndsCardSaid : Prop := Claim7.holds Tryz.pinned (.plain (OpenSpec.ofChange syntaxEndsSpec)) syntaxEndsCard

/-- THE SECOND FORM's CARD OF 'peculiumlaw02.SyntaxParses'. -/
def syntaxParsesUptoCard : Claim7 := { stood := { row := syntaxParsesUptoRow, standIns := [], harness := (true, "3819f459871053e60411e8b391282edd0418ace8bc5ca90b4f14bee7f3b40525"), looks := true }, kinds := [], alts := [], laidByText := true, laidKinds := [.data, .data], laidTests := true, laidLooks := .later }
def SyntaxParsesUptoCardSaid : Prop := Claim7.holds Tryz.pinned (.plain (OpenSpec.upto syntaxParsesSpec)) syntaxParsesUptoCard

/-- THE SECOND FORM's CARD OF 'peculiumlaw02.SyntaxChecks'. -/
def syntaxChecksUptoCard : Claim7 := { stood := { row := syntaxChecksUptoRow, standIns := [], harness := (true, "3819f459871053e60411e8b391282edd0418ace8bc5ca90b4f14bee7f3b40525"), looks := true }, kinds := [], alts := [], laidByText := true, laidKinds := [.data, .data], laidTests := true, laidLooks := .later }
def SyntaxChecksUptoCardSaid : Prop := Claim7.holds Tryz.pinned (.plain (OpenSpec.upto syntaxChecksSpec)) syntaxChecksUptoCard

/-- THE SECOND FORM's CARD OF 'peculiumlaw02.SyntaxPrints'. -/
def syntaxPrintsUptoCard : Claim7 := { stood := { row := syntaxPrintsUptoRow, standIns := [], harness := (true, "3819f459871053e60411e8b391282edd0418ace8bc5ca90b4f14bee7f3b40525"), looks := true }, kinds := [], alts := [], laidByText := true, laidKinds := [.data, .data, .data, .pinned], laidTests := true, laidLooks := .later }
def SyntaxPrintsUptoCardSaid : Prop := Claim7.holds Tryz.pinned (.plain (OpenSpec.upto syntaxPrintsSpec)) syntaxPrintsUptoCard

/-- THE SECOND FORM's CARD OF 'peculiumlaw02.SyntaxNames'. -/
def syntaxNamesUptoCard : Claim7 := { stood := { row := syntaxNamesUptoRow, standIns := [], harness := (true, "3819f459871053e60411e8b391282edd0418ace8bc5ca90b4f14bee7f3b40525"), looks := true }, kinds := [], alts := [], laidByText := true, laidKinds := [.data, .data], laidTests := true, laidLooks := .later }
def SyntaxNamesUptoCardSaid : Prop := Claim7.holds Tryz.pinned (.plain (OpenSpec.upto syntaxNamesSpec)) syntaxNamesUptoCard

/-- THE SECOND FORM's CARD OF 'peculiumlaw02.SyntaxPlaces'. -/
def syntaxPlacesUptoCard : Claim7 := { stood := { row := syntaxPlacesUptoRow, standIns := [], harness := (true, "3819f459871053e60411e8b391282edd0418ace8bc5ca90b4f14bee7f3b40525"), looks := true }, kinds := [], alts := [], laidByText := true, laidKinds := [.data, .data], laidTests := true, laidLooks := .later }
def SyntaxPlacesUptoCardSaid : Prop := Claim7.holds Tryz.pinned (.plain (OpenSpec.upto syntaxPlacesSpec)) syntaxPlacesUptoCard

/-- THE SECOND FORM's CARD OF 'peculiumlaw02.SyntaxBack'. -/
def syntaxBackUptoCard : Claim7 := { stood := { row := syntaxBackUptoRow, standIns := [], harness := (true, "3819f459871053e60411e8b391282edd0418ace8bc5ca90b4f14bee7f3b40525"), looks := true }, kinds := [], alts := [], laidByText := true, laidKinds := [.data, .data, .data, .pinned], laidTests := true, laidLooks := .later }
def SyntaxBackUptoCardSaid : Prop := Claim7.holds Tryz.pinned (.plain (OpenSpec.upto syntaxBackSpec)) syntaxBackUptoCard

/-- THE SECOND FORM's CARD OF 'peculiumlaw02.SyntaxTokens'. -/
def syntaxTokensUptoCard : Claim7 := { stood := { row := syntaxTokensUptoRow, standIns := [], harness := (true, "3819f459871053e60411e8b391282edd0418ace8bc5ca90b4f14bee7f3b40525"), looks := true }, kinds := [], alts := [], laidByText := true, laidKinds := [.data, .data], laidTests := true, laidLooks := .later }
def SyntaxTokensUptoCardSaid : Prop := Claim7.holds Tryz.pinned (.plain (OpenSpec.upto syntaxTokensSpec)) syntaxTokensUptoCard

/-- THE SECOND FORM's CARD OF 'peculiumlaw02.SyntaxLeast'. -/
def syntaxLeastUptoCard : Claim7 := { stood := { row := syntaxLeastUptoRow, standIns := [], harness := (true, "3819f459871053e60411e8b391282edd0418ace8bc5ca90b4f14bee7f3b40525"), looks := true }, kinds := [], alts := [], laidByText := true, laidKinds := [.data, .data], laidTests := true, laidLooks := .later }
def SyntaxLeastUptoCardSaid : Prop := Claim7.holds Tryz.pinned (.plain (OpenSpec.upto syntaxLeastSpec)) syntaxLeastUptoCard

/-- THE SECOND FORM's CARD OF 'peculiumlaw02.SyntaxLines'. -/
def syntaxLinesUptoCard : Claim7 := { stood := { row := syntaxLinesUptoRow, standIns := [], harness := (true, "3819f459871053e60411e8b391282edd0418ace8bc5ca90b4f14bee7f3b40525"), looks := true }, kinds := [], alts := [], laidByText := true, laidKinds := [.data, .data, .data, .pinned], laidTests := true, laidLooks := .later }
def SyntaxLinesUptoCardSaid : Prop := Claim7.holds Tryz.pinned (.plain (OpenSpec.upto syntaxLinesSpec)) syntaxLinesUptoCard

/-- THE SECOND FORM's CARD OF 'peculiumlaw02.SyntaxRenames'. -/
def syntaxRenamesUptoCard : Claim7 := { stood := { row := syntaxRenamesUptoRow, standIns := [], harness := (true, "3819f459871053e60411e8b391282edd0418ace8bc5ca90b4f14bee7f3b40525"), looks := true }, kinds := [], alts := [], laidByText := true, laidKinds := [.data, .data], laidTests := true, laidLooks := .later }
def SyntaxRenamesUptoCardSaid : Prop := Claim7.holds Tryz.pinned (.plain (OpenSpec.upto syntaxRenamesSpec)) syntaxRenamesUptoCard

/-- THE SECOND FORM's CARD OF 'peculiumlaw02.SyntaxPuts'. -/
def syntaxPutsUptoCard : Claim7 := { stood := { row := syntaxPutsUptoRow, standIns := [], harness := (true, "3819f459871053e60411e8b391282edd0418ace8bc5ca90b4f14bee7f3b40525"), looks := true }, kinds := [], alts := [], laidByText := true, laidKinds := [.data, .data], laidTests := true, laidLooks := .later }
def SyntaxPutsUptoCardSaid : Prop := Claim7.holds Tryz.pinned (.plain (OpenSpec.upto syntaxPutsSpec)) syntaxPutsUptoCard

/-- THE SECOND FORM's CARD OF 'peculiumlaw02.SyntaxPlain'. -/
def syntaxPlainUptoCard : Claim7 := { stood := { row := syntaxPlainUptoRow, standIns := [], harness := (true, "3819f459871053e60411e8b391282edd0418ace8bc5ca90b4f14bee7f3b40525"), looks := true }, kinds := [], alts := [], laidByText := true, laidKinds := [.data, .data], laidTests := true, laidLooks := .later }
def SyntaxPlainUptoCardSaid : Prop := Claim7.holds Tryz.pinned (.plain (OpenSpec.upto syntaxPlainSpec)) syntaxPlainUptoCard

/-- THE SECOND FORM's CARD OF 'peculiumlaw02.SyntaxJoined'. -/
def syntaxJoinedUptoCard : Claim7 := { stood := { row := syntaxJoinedUptoRow, standIns := [], harness := (true, "3819f459871053e60411e8b391282edd0418ace8bc5ca90b4f14bee7f3b40525"), looks := true }, kinds := [], alts := [], laidByText := true, laidKinds := [.data, .data], laidTests := true, laidLooks := .later }
def SyntaxJoinedUptoCardSaid : Prop := Claim7.holds Tryz.pinned (.plain (OpenSpec.upto syntaxJoinedSpec)) syntaxJoinedUptoCard

/-- THE SECOND FORM's CARD OF 'peculiumlaw02.SyntaxEnds'. -/
def syntaxEndsUptoCard : Claim7 := { stood := { row := syntaxEndsUptoRow, standIns := [], harness := (true, "3819f459871053e60411e8b391282edd0418ace8bc5ca90b4f14bee7f3b40525"), looks := true }, kinds := [], alts := [], laidByText := true, laidKinds := [.data, .data], laidTests := true, laidLooks := .later }
def SyntaxEndsUptoCardSaid : Prop := Claim7.holds Tryz.pinned (.plain (OpenSpec.upto syntaxEndsSpec)) syntaxEndsUptoCard
end Rows
end Go.Proofs.YtgjijidlaghlmaaGreatDoor
