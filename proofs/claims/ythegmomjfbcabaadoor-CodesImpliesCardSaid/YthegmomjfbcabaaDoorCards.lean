/-
  DERIVED. GIVEN WITH THE SEED: THE CARDS: each row of YthegmomjfbcabaaDoorRows.lean that lists a variable, with what it lists TIED to the program's text (the seventh form; the later family's looks); each row that meets fmt, with fmt's text TOLD by the authors' own Lean function (tested against real Go, not proved from fmt's source: count such statements apart). THE CARD IS WHAT COUNTS. Prove the row's statement (the work); the ties are given (YthegmomjfbcabaaDoorTie.lean); close each card by the builder's one call (the guide's Derived/Test/ToyasCard.lean, 'card_holds'). Laid BY PROGRAM, IN A SANDBOX (cutbox-door.mjs). By AI agents, Wed Nov 11 2026. No macro, syntax, notation, axiom, sorry.
-/
import Derived.Test.YthegmomjfbcabaaDoorRows
import GoSem.ClaimSeven
namespace Go.Proofs.YthegmomjfbcabaaDoor
namespace Rows

/-- THE TIED CARD OF 'padlocklaw01.CodesChecks'. -/
def codesChecksCard : Claim7 := { stood := { row := codesChecksRow, standIns := [], harness := (true, "df9cddf33303c23d1e683735d0268d1b3e1afb8ea4e560ce732573643b343344"), looks := false }, kinds := [], alts := [], laidByText := true, laidKinds := [.wider], laidTests := true, laidLooks := .later }
def CodesChecksCardSaid : Prop := Claim7.holds Tryd.pinned (.plain (OpenSpec.ofChange codesChecksSpec)) codesChecksCard

/-- THE TIED CARD OF 'padlocklaw01.CodesAnswers'. -/
def codesAnswersCard : Claim7 := { stood := { row := codesAnswersRow, standIns := [], harness := (true, "df9cddf33303c23d1e683735d0268d1b3e1afb8ea4e560ce732573643b343344"), looks := false }, kinds := [], alts := [], laidByText := true, laidKinds := [.wider], laidTests := true, laidLooks := .later }
def CodesAnswersCardSaid : Prop := Claim7.holds Tryd.pinned (.plain (OpenSpec.ofChange codesAnswersSpec)) codesAnswersCard

/-- THE TIED CARD OF 'padlocklaw01.CodesFits'. -/
def codesFitsCard : Claim7 := { stood := { row := codesFitsRow, standIns := [], harness := (true, "df9cddf33303c23d1e683735d0268d1b3e1afb8ea4e560ce732573643b343344"), looks := false }, kinds := [], alts := [], laidByText := true, laidKinds := [.wider], laidTests := true, laidLooks := .later }
def CodesFitsCardSaid : Prop := Claim7.holds Tryd.pinned (.plain (OpenSpec.ofChange codesFitsSpec)) codesFitsCard

/-- THE TIED CARD OF 'padlocklaw01.CodesReads'. -/
def codesReadsCard : Claim7 := { stood := { row := codesReadsRow, standIns := [], harness := (true, "df9cddf33303c23d1e683735d0268d1b3e1afb8ea4e560ce732573643b343344"), looks := false }, kinds := [], alts := [], laidByText := true, laidKinds := [.wider], laidTests := true, laidLooks := .later }
def CodesReadsCardSaid : Prop := Claim7.holds Tryd.pinned (.plain (OpenSpec.ofChange codesReadsSpec)) codesReadsCard

/-- THE TIED CARD OF 'padlocklaw01.CodesImplies'. -/
def codesImpliesCard : Claim7 := { stood := { row := codesImpliesRow, standIns := [], harness := (true, "df9cddf33303c23d1e683735d0268d1b3e1afb8ea4e560ce732573643b343344"), looks := false }, kinds := [], alts := [], laidByText := true, laidKinds := [.wider], laidTests := true, laidLooks := .later }
def CodesImpliesCardSaid : Prop := Claim7.holds Tryd.pinned (.plain (OpenSpec.ofChange codesImpliesSpec)) codesImpliesCard

/-- THE TIED CARD OF 'padlocklaw01.CodesCores'. -/
def codesCoresCard : Claim7 := { stood := { row := codesCoresRow, standIns := [], harness := (true, "df9cddf33303c23d1e683735d0268d1b3e1afb8ea4e560ce732573643b343344"), looks := false }, kinds := [], alts := [], laidByText := true, laidKinds := [.data, .wider], laidTests := true, laidLooks := .later }
def CodesCoresCardSaid : Prop := Claim7.holds Tryd.pinned (.plain (OpenSpec.ofChange codesCoresSpec)) codesCoresCard

/-- THE TIED CARD OF 'padlocklaw01.CodesChooses'. -/
def codesChoosesCard : Claim7 := { stood := { row := codesChoosesRow, standIns := [], harness := (true, "df9cddf33303c23d1e683735d0268d1b3e1afb8ea4e560ce732573643b343344"), looks := false }, kinds := [], alts := [], laidByText := true, laidKinds := [.data, .wider], laidTests := true, laidLooks := .later }
def CodesChoosesCardSaid : Prop := Claim7.holds Tryd.pinned (.plain (OpenSpec.ofChange codesChoosesSpec)) codesChoosesCard

/-- THE TIED CARD OF 'padlocklaw01.CodesNext'. -/
def codesNextCard : Claim7 := { stood := { row := codesNextRow, standIns := [], harness := (true, "df9cddf33303c23d1e683735d0268d1b3e1afb8ea4e560ce732573643b343344"), looks := false }, kinds := [], alts := [], laidByText := true, laidKinds := [.wider], laidTests := true, laidLooks := .later }
def CodesNextCardSaid : Prop := Claim7.holds Tryd.pinned (.plain (OpenSpec.ofChange codesNextSpec)) codesNextCard

/-- THE TIED CARD OF 'padlocklaw01.CodesWrites'. -/
def codesWritesCard : Claim7 := { stood := { row := codesWritesRow, standIns := [], harness := (true, "df9cddf33303c23d1e683735d0268d1b3e1afb8ea4e560ce732573643b343344"), looks := false }, kinds := [], alts := [], laidByText := true, laidKinds := [.data, .data, .data, .data, .wider, .pinned], laidTests := true, laidLooks := .later }
def CodesWritesCardSaid : Prop := Claim7.holds Tryd.pinned (.plain (OpenSpec.ofChange codesWritesSpec)) codesWritesCard

/-- THE TIED CARD OF 'padlocklaw01.CodesParses'. -/
def codesParsesCard : Claim7 := { stood := { row := codesParsesRow, standIns := [], harness := (true, "df9cddf33303c23d1e683735d0268d1b3e1afb8ea4e560ce732573643b343344"), looks := false }, kinds := [], alts := [], laidByText := true, laidKinds := [.data, .wider, .pinned], laidTests := true, laidLooks := .later }
def CodesParsesCardSaid : Prop := Claim7.holds Tryd.pinned (.plain (OpenSpec.ofChange codesParsesSpec)) codesParsesCard

/-- THE TIED CARD OF 'padlocklaw01.CodesExact'. -/
def codesExactCard : Claim7 := { stood := { row := codesExactRow, standIns := [], harness := (true, "df9cddf33303c23d1e683735d0268d1b3e1afb8ea4e560ce732573643b343344"), looks := false }, kinds := [], alts := [], laidByText := true, laidKinds := [.wider], laidTests := true, laidLooks := .later }
def CodesExactCardSaid : Prop := Claim7.holds Tryd.pinned (.plain (OpenSpec.ofChange codesExactSpec)) codesExactCard

/-- THE TIED CARD OF 'padlocklaw01.CodesOne'. -/
def codesOneCard : Claim7 := { stood := { row := codesOneRow, standIns := [], harness := (true, "df9cddf33303c23d1e683735d0268d1b3e1afb8ea4e560ce732573643b343344"), looks := false }, kinds := [], alts := [], laidByText := true, laidKinds := [.wider], laidTests := true, laidLooks := .later }
def CodesOneCardSaid : Prop := Claim7.holds Tryd.pinned (.plain (OpenSpec.ofChange codesOneSpec)) codesOneCard

/-- THE TIED CARD OF 'padlocklaw01.CodesDecoys'. -/
def codesDecoysCard : Claim7 := { stood := { row := codesDecoysRow, standIns := [], harness := (true, "df9cddf33303c23d1e683735d0268d1b3e1afb8ea4e560ce732573643b343344"), looks := false }, kinds := [], alts := [], laidByText := true, laidKinds := [.data, .wider], laidTests := true, laidLooks := .later }
def CodesDecoysCardSaid : Prop := Claim7.holds Tryd.pinned (.plain (OpenSpec.ofChange codesDecoysSpec)) codesDecoysCard

/-- THE TIED CARD OF 'padlocklaw01.CodesFewest'. -/
def codesFewestCard : Claim7 := { stood := { row := codesFewestRow, standIns := [], harness := (true, "df9cddf33303c23d1e683735d0268d1b3e1afb8ea4e560ce732573643b343344"), looks := false }, kinds := [], alts := [], laidByText := true, laidKinds := [.data, .wider], laidTests := true, laidLooks := .later }
def CodesFewestCardSaid : Prop := Claim7.holds Tryd.pinned (.plain (OpenSpec.ofChange codesFewestSpec)) codesFewestCard

/-- THE TIED CARD OF 'padlocklaw01.CodesMirror'. -/
def codesMirrorCard : Claim7 := { stood := { row := codesMirrorRow, standIns := [], harness := (true, "df9cddf33303c23d1e683735d0268d1b3e1afb8ea4e560ce732573643b343344"), looks := false }, kinds := [], alts := [], laidByText := true, laidKinds := [.wider], laidTests := true, laidLooks := .later }
def CodesMirrorCardSaid : Prop := Claim7.holds Tryd.pinned (.plain (OpenSpec.ofChange codesMirrorSpec)) codesMirrorCard

/-- THE TIED CARD OF 'padlocklaw01.CodesLeft'. -/
def codesLeftCard : Claim7 := { stood := { row := codesLeftRow, standIns := [], harness := (true, "df9cddf33303c23d1e683735d0268d1b3e1afb8ea4e560ce732573643b343344"), looks := false }, kinds := [], alts := [], laidByText := true, laidKinds := [.wider], laidTests := true, laidLooks := .later }
def CodesLeftCardSaid : Prop := Claim7.holds Tryd.pinned (.plain (OpenSpec.ofChange codesLeftSpec)) codesLeftCard

/-- THE SECOND FORM's CARD OF 'padlocklaw01.CodesChecks'. -/
def codesChecksUptoCard : Claim7 := { stood := { row := codesChecksUptoRow, standIns := [], harness := (true, "df9cddf33303c23d1e683735d0268d1b3e1afb8ea4e560ce732573643b343344"), looks := false }, kinds := [], alts := [], laidByText := true, laidKinds := [.wider], laidTests := true, laidLooks := .later }
def CodesChecksUptoCardSaid : Prop := Claim7.holds Tryd.pinned (.plain (OpenSpec.upto codesChecksSpec)) codesChecksUptoCard

/-- THE SECOND FORM's CARD OF 'padlocklaw01.CodesAnswers'. -/
def codesAnswersUptoCard : Claim7 := { stood := { row := codesAnswersUptoRow, standIns := [], harness := (true, "df9cddf33303c23d1e683735d0268d1b3e1afb8ea4e560ce732573643b343344"), looks := false }, kinds := [], alts := [], laidByText := true, laidKinds := [.wider], laidTests := true, laidLooks := .later }
def CodesAnswersUptoCardSaid : Prop := Claim7.holds Tryd.pinned (.plain (OpenSpec.upto codesAnswersSpec)) codesAnswersUptoCard

/-- THE SECOND FORM's CARD OF 'padlocklaw01.CodesFits'. -/
def codesFitsUptoCard : Claim7 := { stood := { row := codesFitsUptoRow, standIns := [], harness := (true, "df9cddf33303c23d1e683735d0268d1b3e1afb8ea4e560ce732573643b343344"), looks := false }, kinds := [], alts := [], laidByText := true, laidKinds := [.wider], laidTests := true, laidLooks := .later }
def CodesFitsUptoCardSaid : Prop := Claim7.holds Tryd.pinned (.plain (OpenSpec.upto codesFitsSpec)) codesFitsUptoCard

/-- THE SECOND FORM's CARD OF 'padlocklaw01.CodesReads'. -/
def codesReadsUptoCard : Claim7 := { stood := { row := codesReadsUptoRow, standIns := [], harness := (true, "df9cddf33303c23d1e683735d0268d1b3e1afb8ea4e560ce732573643b343344"), looks := false }, kinds := [], alts := [], laidByText := true, laidKinds := [.wider], laidTests := true, laidLooks := .later }
def CodesReadsUptoCardSaid : Prop := Claim7.holds Tryd.pinned (.plain (OpenSpec.upto codesReadsSpec)) codesReadsUptoCard

/-- THE SECOND FORM's CARD OF 'padlocklaw01.CodesImplies'. -/
def codesImpliesUptoCard : Claim7 := { stood := { row := codesImpliesUptoRow, standIns := [], harness := (true, "df9cddf33303c23d1e683735d0268d1b3e1afb8ea4e560ce732573643b343344"), looks := false }, kinds := [], alts := [], laidByText := true, laidKinds := [.wider], laidTests := true, laidLooks := .later }
def CodesImpliesUptoCardSaid : Prop := Claim7.holds Tryd.pinned (.plain (OpenSpec.upto codesImpliesSpec)) codesImpliesUptoCard

/-- THE SECOND FORM's CARD OF 'padlocklaw01.CodesCores'. -/
def codesCoresUptoCard : Claim7 := { stood := { row := codesCoresUptoRow, standIns := [], harness := (true, "df9cddf33303c23d1e683735d0268d1b3e1afb8ea4e560ce732573643b343344"), looks := false }, kinds := [], alts := [], laidByText := true, laidKinds := [.data, .wider], laidTests := true, laidLooks := .later }
def CodesCoresUptoCardSaid : Prop := Claim7.holds Tryd.pinned (.plain (OpenSpec.upto codesCoresSpec)) codesCoresUptoCard

/-- THE SECOND FORM's CARD OF 'padlocklaw01.CodesChooses'. -/
def codesChoosesUptoCard : Claim7 := { stood := { row := codesChoosesUptoRow, standIns := [], harness := (true, "df9cddf33303c23d1e683735d0268d1b3e1afb8ea4e560ce732573643b343344"), looks := false }, kinds := [], alts := [], laidByText := true, laidKinds := [.data, .wider], laidTests := true, laidLooks := .later }
def CodesChoosesUptoCardSaid : Prop := Claim7.holds Tryd.pinned (.plain (OpenSpec.upto codesChoosesSpec)) codesChoosesUptoCard

/-- THE SECOND FORM's CARD OF 'padlocklaw01.CodesNext'. -/
def codesNextUptoCard : Claim7 := { stood := { row := codesNextUptoRow, standIns := [], harness := (true, "df9cddf33303c23d1e683735d0268d1b3e1afb8ea4e560ce732573643b343344"), looks := false }, kinds := [], alts := [], laidByText := true, laidKinds := [.wider], laidTests := true, laidLooks := .later }
def CodesNextUptoCardSaid : Prop := Claim7.holds Tryd.pinned (.plain (OpenSpec.upto codesNextSpec)) codesNextUptoCard

/-- THE SECOND FORM's CARD OF 'padlocklaw01.CodesWrites'. -/
def codesWritesUptoCard : Claim7 := { stood := { row := codesWritesUptoRow, standIns := [], harness := (true, "df9cddf33303c23d1e683735d0268d1b3e1afb8ea4e560ce732573643b343344"), looks := false }, kinds := [], alts := [], laidByText := true, laidKinds := [.data, .data, .data, .data, .wider, .pinned], laidTests := true, laidLooks := .later }
def CodesWritesUptoCardSaid : Prop := Claim7.holds Tryd.pinned (.plain (OpenSpec.upto codesWritesSpec)) codesWritesUptoCard

/-- THE SECOND FORM's CARD OF 'padlocklaw01.CodesParses'. -/
def codesParsesUptoCard : Claim7 := { stood := { row := codesParsesUptoRow, standIns := [], harness := (true, "df9cddf33303c23d1e683735d0268d1b3e1afb8ea4e560ce732573643b343344"), looks := false }, kinds := [], alts := [], laidByText := true, laidKinds := [.data, .wider, .pinned], laidTests := true, laidLooks := .later }
def CodesParsesUptoCardSaid : Prop := Claim7.holds Tryd.pinned (.plain (OpenSpec.upto codesParsesSpec)) codesParsesUptoCard

/-- THE SECOND FORM's CARD OF 'padlocklaw01.CodesExact'. -/
def codesExactUptoCard : Claim7 := { stood := { row := codesExactUptoRow, standIns := [], harness := (true, "df9cddf33303c23d1e683735d0268d1b3e1afb8ea4e560ce732573643b343344"), looks := false }, kinds := [], alts := [], laidByText := true, laidKinds := [.wider], laidTests := true, laidLooks := .later }
def CodesExactUptoCardSaid : Prop := Claim7.holds Tryd.pinned (.plain (OpenSpec.upto codesExactSpec)) codesExactUptoCard

/-- THE SECOND FORM's CARD OF 'padlocklaw01.CodesOne'. -/
def codesOneUptoCard : Claim7 := { stood := { row := codesOneUptoRow, standIns := [], harness := (true, "df9cddf33303c23d1e683735d0268d1b3e1afb8ea4e560ce732573643b343344"), looks := false }, kinds := [], alts := [], laidByText := true, laidKinds := [.wider], laidTests := true, laidLooks := .later }
def CodesOneUptoCardSaid : Prop := Claim7.holds Tryd.pinned (.plain (OpenSpec.upto codesOneSpec)) codesOneUptoCard

/-- THE SECOND FORM's CARD OF 'padlocklaw01.CodesDecoys'. -/
def codesDecoysUptoCard : Claim7 := { stood := { row := codesDecoysUptoRow, standIns := [], harness := (true, "df9cddf33303c23d1e683735d0268d1b3e1afb8ea4e560ce732573643b343344"), looks := false }, kinds := [], alts := [], laidByText := true, laidKinds := [.data, .wider], laidTests := true, laidLooks := .later }
def CodesDecoysUptoCardSaid : Prop := Claim7.holds Tryd.pinned (.plain (OpenSpec.upto codesDecoysSpec)) codesDecoysUptoCard

/-- THE SECOND FORM's CARD OF 'padlocklaw01.CodesFewest'. -/
def codesFewestUptoCard : Claim7 := { stood := { row := codesFewestUptoRow, standIns := [], harness := (true, "df9cddf33303c23d1e683735d0268d1b3e1afb8ea4e560ce732573643b343344"), looks := false }, kinds := [], alts := [], laidByText := true, laidKinds := [.data, .wider], laidTests := true, laidLooks := .later }
def CodesFewestUptoCardSaid : Prop := Claim7.holds Tryd.pinned (.plain (OpenSpec.upto codesFewestSpec)) codesFewestUptoCard

/-- THE SECOND FORM's CARD OF 'padlocklaw01.CodesMirror'. -/
def codesMirrorUptoCard : Claim7 := { stood := { row := codesMirrorUptoRow, standIns := [], harness := (true, "df9cddf33303c23d1e683735d0268d1b3e1afb8ea4e560ce732573643b343344"), looks := false }, kinds := [], alts := [], laidByText := true, laidKinds := [.wider], laidTests := true, laidLooks := .later }
def CodesMirrorUptoCardSaid : Prop := Claim7.holds Tryd.pinned (.plain (OpenSpec.upto codesMirrorSpec)) codesMirrorUptoCard

/-- THE SECOND FORM's CARD OF 'padlocklaw01.CodesLeft'. -/
def codesLeftUptoCard : Claim7 := { stood := { row := codesLeftUptoRow, standIns := [], harness := (true, "df9cddf33303c23d1e683735d0268d1b3e1afb8ea4e560ce732573643b343344"), looks := false }, kinds := [], alts := [], laidByText := true, laidKinds := [.wider], laidTests := true, laidLooks := .later }
def CodesLeftUptoCardSaid : Prop := Claim7.holds Tryd.pinned (.plain (OpenSpec.upto codesLeftSpec)) codesLeftUptoCard
end Rows
end Go.Proofs.YthegmomjfbcabaaDoor
