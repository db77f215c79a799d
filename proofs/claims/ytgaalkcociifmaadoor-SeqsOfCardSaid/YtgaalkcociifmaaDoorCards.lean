/-
  DERIVED. GIVEN WITH THE SEED: THE CARDS: each row of YtgaalkcociifmaaDoorRows.lean that lists a variable, with what it lists TIED to the program's text (the seventh form; the later family's looks); each row that meets fmt, with fmt's text TOLD by the authors' own Lean function (tested against real Go, not proved from fmt's source: count such statements apart). THE CARD IS WHAT COUNTS. Prove the row's statement (the work); the ties are given (YtgaalkcociifmaaDoorTie.lean); close each card by the builder's one call (the guide's Derived/Test/ToyasCard.lean, 'card_holds'). Laid BY PROGRAM, IN A SANDBOX (cutbox-door.mjs). By AI agents, Wed Nov 11 2026. No macro, syntax, notation, axiom, sorry.
-/
import Derived.Test.YtgaalkcociifmaaDoorRows
import GoSem.ClaimSeven
namespace Go.Proofs.YtgaalkcociifmaaDoor
namespace Rows

/-- THE TIED CARD OF 'glyphcutterlaw03.SeqsBoth'. -/
def seqsBothCard : Claim7 := { stood := { row := seqsBothRow, standIns := [], harness := (true, "c4466d113517f9bff53a6d1c8f71296f0bbf715c05f636a895f6dc29cd6b44b1"), looks := false }, kinds := [], alts := [], laidByText := true, laidKinds := [.data, .data], laidTests := true, laidLooks := .later }
def SeqsBothCardSaid : Prop := Claim7.holds Tryd.pinned (.plain (OpenSpec.ofChange seqsBothSpec)) seqsBothCard

/-- THE TIED CARD OF 'glyphcutterlaw03.SeqsOne'. -/
def seqsOneCard : Claim7 := { stood := { row := seqsOneRow, standIns := [], harness := (true, "c4466d113517f9bff53a6d1c8f71296f0bbf715c05f636a895f6dc29cd6b44b1"), looks := false }, kinds := [], alts := [], laidByText := true, laidKinds := [.data, .data], laidTests := true, laidLooks := .later }
def SeqsOneCardSaid : Prop := Claim7.holds Tryd.pinned (.plain (OpenSpec.ofChange seqsOneSpec)) seqsOneCard

/-- THE TIED CARD OF 'glyphcutterlaw03.SeqsOf'. -/
def seqsOfCard : Claim7 := { stood := { row := seqsOfRow, standIns := [], harness := (true, "c4466d113517f9bff53a6d1c8f71296f0bbf715c05f636a895f6dc29cd6b44b1"), looks := false }, kinds := [], alts := [], laidByText := true, laidKinds := [.data, .data], laidTests := true, laidLooks := .later }
def SeqsOfCardSaid : Prop := Claim7.holds Tryd.pinned (.plain (OpenSpec.ofChange seqsOfSpec)) seqsOfCard

/-- THE TIED CARD OF 'glyphcutterlaw03.SeqsMatch'. -/
def seqsMatchCard : Claim7 := { stood := { row := seqsMatchRow, standIns := [], harness := (true, "c4466d113517f9bff53a6d1c8f71296f0bbf715c05f636a895f6dc29cd6b44b1"), looks := false }, kinds := [], alts := [], laidByText := true, laidKinds := [.data, .data], laidTests := true, laidLooks := .later }
def SeqsMatchCardSaid : Prop := Claim7.holds Tryd.pinned (.plain (OpenSpec.ofChange seqsMatchSpec)) seqsMatchCard

/-- THE TIED CARD OF 'glyphcutterlaw03.SeqsHas'. -/
def seqsHasCard : Claim7 := { stood := { row := seqsHasRow, standIns := [], harness := (true, "c4466d113517f9bff53a6d1c8f71296f0bbf715c05f636a895f6dc29cd6b44b1"), looks := false }, kinds := [], alts := [], laidByText := true, laidKinds := [.data, .data], laidTests := true, laidLooks := .later }
def SeqsHasCardSaid : Prop := Claim7.holds Tryd.pinned (.plain (OpenSpec.ofChange seqsHasSpec)) seqsHasCard

/-- THE TIED CARD OF 'glyphcutterlaw03.SeqsCounts'. -/
def seqsCountsCard : Claim7 := { stood := { row := seqsCountsRow, standIns := [], harness := (true, "c4466d113517f9bff53a6d1c8f71296f0bbf715c05f636a895f6dc29cd6b44b1"), looks := false }, kinds := [], alts := [], laidByText := true, laidKinds := [.data, .data], laidTests := true, laidLooks := .later }
def SeqsCountsCardSaid : Prop := Claim7.holds Tryd.pinned (.plain (OpenSpec.ofChange seqsCountsSpec)) seqsCountsCard

/-- THE TIED CARD OF 'glyphcutterlaw03.SeqsRise'. -/
def seqsRiseCard : Claim7 := { stood := { row := seqsRiseRow, standIns := [], harness := (true, "c4466d113517f9bff53a6d1c8f71296f0bbf715c05f636a895f6dc29cd6b44b1"), looks := false }, kinds := [], alts := [], laidByText := true, laidKinds := [.data, .data], laidTests := true, laidLooks := .later }
def SeqsRiseCardSaid : Prop := Claim7.holds Tryd.pinned (.plain (OpenSpec.ofChange seqsRiseSpec)) seqsRiseCard

/-- THE TIED CARD OF 'glyphcutterlaw01.SetUnions'. -/
def setUnionsCard : Claim7 := { stood := { row := setUnionsRow, standIns := [], harness := (true, "c4466d113517f9bff53a6d1c8f71296f0bbf715c05f636a895f6dc29cd6b44b1"), looks := false }, kinds := [], alts := [], laidByText := true, laidKinds := [.data], laidTests := true, laidLooks := .later }
def SetUnionsCardSaid : Prop := Claim7.holds Tryd.pinned (.plain (OpenSpec.ofChange setUnionsSpec)) setUnionsCard

/-- THE SECOND FORM's CARD OF 'glyphcutterlaw03.SeqsBoth'. -/
def seqsBothUptoCard : Claim7 := { stood := { row := seqsBothUptoRow, standIns := [], harness := (true, "c4466d113517f9bff53a6d1c8f71296f0bbf715c05f636a895f6dc29cd6b44b1"), looks := false }, kinds := [], alts := [], laidByText := true, laidKinds := [.data, .data], laidTests := true, laidLooks := .later }
def SeqsBothUptoCardSaid : Prop := Claim7.holds Tryd.pinned (.plain (OpenSpec.upto seqsBothSpec)) seqsBothUptoCard

/-- THE SECOND FORM's CARD OF 'glyphcutterlaw03.SeqsOne'. -/
def seqsOneUptoCard : Claim7 := { stood := { row := seqsOneUptoRow, standIns := [], harness := (true, "c4466d113517f9bff53a6d1c8f71296f0bbf715c05f636a895f6dc29cd6b44b1"), looks := false }, kinds := [], alts := [], laidByText := true, laidKinds := [.data, .data], laidTests := true, laidLooks := .later }
def SeqsOneUptoCardSaid : Prop := Claim7.holds Tryd.pinned (.plain (OpenSpec.upto seqsOneSpec)) seqsOneUptoCard

/-- THE SECOND FORM's CARD OF 'glyphcutterlaw03.SeqsOf'. -/
def seqsOfUptoCard : Claim7 := { stood := { row := seqsOfUptoRow, standIns := [], harness := (true, "c4466d113517f9bff53a6d1c8f71296f0bbf715c05f636a895f6dc29cd6b44b1"), looks := false }, kinds := [], alts := [], laidByText := true, laidKinds := [.data, .data], laidTests := true, laidLooks := .later }
def SeqsOfUptoCardSaid : Prop := Claim7.holds Tryd.pinned (.plain (OpenSpec.upto seqsOfSpec)) seqsOfUptoCard

/-- THE SECOND FORM's CARD OF 'glyphcutterlaw03.SeqsMatch'. -/
def seqsMatchUptoCard : Claim7 := { stood := { row := seqsMatchUptoRow, standIns := [], harness := (true, "c4466d113517f9bff53a6d1c8f71296f0bbf715c05f636a895f6dc29cd6b44b1"), looks := false }, kinds := [], alts := [], laidByText := true, laidKinds := [.data, .data], laidTests := true, laidLooks := .later }
def SeqsMatchUptoCardSaid : Prop := Claim7.holds Tryd.pinned (.plain (OpenSpec.upto seqsMatchSpec)) seqsMatchUptoCard

/-- THE SECOND FORM's CARD OF 'glyphcutterlaw03.SeqsHas'. -/
def seqsHasUptoCard : Claim7 := { stood := { row := seqsHasUptoRow, standIns := [], harness := (true, "c4466d113517f9bff53a6d1c8f71296f0bbf715c05f636a895f6dc29cd6b44b1"), looks := false }, kinds := [], alts := [], laidByText := true, laidKinds := [.data, .data], laidTests := true, laidLooks := .later }
def SeqsHasUptoCardSaid : Prop := Claim7.holds Tryd.pinned (.plain (OpenSpec.upto seqsHasSpec)) seqsHasUptoCard

/-- THE SECOND FORM's CARD OF 'glyphcutterlaw03.SeqsCounts'. -/
def seqsCountsUptoCard : Claim7 := { stood := { row := seqsCountsUptoRow, standIns := [], harness := (true, "c4466d113517f9bff53a6d1c8f71296f0bbf715c05f636a895f6dc29cd6b44b1"), looks := false }, kinds := [], alts := [], laidByText := true, laidKinds := [.data, .data], laidTests := true, laidLooks := .later }
def SeqsCountsUptoCardSaid : Prop := Claim7.holds Tryd.pinned (.plain (OpenSpec.upto seqsCountsSpec)) seqsCountsUptoCard

/-- THE SECOND FORM's CARD OF 'glyphcutterlaw03.SeqsRise'. -/
def seqsRiseUptoCard : Claim7 := { stood := { row := seqsRiseUptoRow, standIns := [], harness := (true, "c4466d113517f9bff53a6d1c8f71296f0bbf715c05f636a895f6dc29cd6b44b1"), looks := false }, kinds := [], alts := [], laidByText := true, laidKinds := [.data, .data], laidTests := true, laidLooks := .later }
def SeqsRiseUptoCardSaid : Prop := Claim7.holds Tryd.pinned (.plain (OpenSpec.upto seqsRiseSpec)) seqsRiseUptoCard

/-- THE SECOND FORM's CARD OF 'glyphcutterlaw01.SetUnions'. -/
def setUnionsUptoCard : Claim7 := { stood := { row := setUnionsUptoRow, standIns := [], harness := (true, "c4466d113517f9bff53a6d1c8f71296f0bbf715c05f636a895f6dc29cd6b44b1"), looks := false }, kinds := [], alts := [], laidByText := true, laidKinds := [.data], laidTests := true, laidLooks := .later }
def SetUnionsUptoCardSaid : Prop := Claim7.holds Tryd.pinned (.plain (OpenSpec.upto setUnionsSpec)) setUnionsUptoCard
end Rows
end Go.Proofs.YtgaalkcociifmaaDoor
