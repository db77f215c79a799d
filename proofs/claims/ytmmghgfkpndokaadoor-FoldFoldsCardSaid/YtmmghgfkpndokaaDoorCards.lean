/-
  DERIVED. GIVEN WITH THE SEED: THE CARDS: each row of YtmmghgfkpndokaaDoorRows.lean that lists a variable, with what it lists TIED to the program's text (the seventh form; the later family's looks); each row that meets fmt, with fmt's text TOLD by the authors' own Lean function (tested against real Go, not proved from fmt's source: count such statements apart). THE CARD IS WHAT COUNTS. Prove the row's statement (the work); the ties are given (YtmmghgfkpndokaaDoorTie.lean); close each card by the builder's one call (the guide's Derived/Test/ToyasCard.lean, 'card_holds'). Laid BY PROGRAM, IN A SANDBOX (cutbox-door.mjs). By AI agents, Wed Nov 11 2026. No macro, syntax, notation, axiom, sorry.
-/
import Derived.Test.YtmmghgfkpndokaaDoorRows
import GoSem.ClaimSeven
namespace Go.Proofs.YtmmghgfkpndokaaDoor
namespace Rows

/-- THE TIED CARD OF 'glyphcutterlaw04.FoldSmall'. -/
def foldSmallCard : Claim7 := { stood := { row := foldSmallRow, standIns := [], harness := (true, "2ef4c3cc83e078b896b969ae4adb879fe734aea2de4f306af5d3788f19a4e217"), looks := false }, kinds := [], alts := [], laidByText := true, laidKinds := [.data, .data], laidTests := true, laidLooks := .later }
def FoldSmallCardSaid : Prop := Claim7.holds Tryd.pinned (.plain (OpenSpec.ofChange foldSmallSpec)) foldSmallCard

/-- THE TIED CARD OF 'glyphcutterlaw04.FoldUnion'. -/
def foldUnionCard : Claim7 := { stood := { row := foldUnionRow, standIns := [], harness := (true, "2ef4c3cc83e078b896b969ae4adb879fe734aea2de4f306af5d3788f19a4e217"), looks := false }, kinds := [], alts := [], laidByText := true, laidKinds := [.data, .data], laidTests := true, laidLooks := .later }
def FoldUnionCardSaid : Prop := Claim7.holds Tryd.pinned (.plain (OpenSpec.ofChange foldUnionSpec)) foldUnionCard

/-- THE TIED CARD OF 'glyphcutterlaw04.FoldFolds'. -/
def foldFoldsCard : Claim7 := { stood := { row := foldFoldsRow, standIns := [], harness := (true, "2ef4c3cc83e078b896b969ae4adb879fe734aea2de4f306af5d3788f19a4e217"), looks := false }, kinds := [], alts := [], laidByText := true, laidKinds := [.data, .data], laidTests := true, laidLooks := .later }
def FoldFoldsCardSaid : Prop := Claim7.holds Tryd.pinned (.plain (OpenSpec.ofChange foldFoldsSpec)) foldFoldsCard

/-- THE TIED CARD OF 'glyphcutterlaw04.FoldOnce'. -/
def foldOnceCard : Claim7 := { stood := { row := foldOnceRow, standIns := [], harness := (true, "2ef4c3cc83e078b896b969ae4adb879fe734aea2de4f306af5d3788f19a4e217"), looks := false }, kinds := [], alts := [], laidByText := true, laidKinds := [.data, .data], laidTests := true, laidLooks := .later }
def FoldOnceCardSaid : Prop := Claim7.holds Tryd.pinned (.plain (OpenSpec.ofChange foldOnceSpec)) foldOnceCard

/-- THE TIED CARD OF 'glyphcutterlaw04.FoldCloses'. -/
def foldClosesCard : Claim7 := { stood := { row := foldClosesRow, standIns := [], harness := (true, "2ef4c3cc83e078b896b969ae4adb879fe734aea2de4f306af5d3788f19a4e217"), looks := false }, kinds := [], alts := [], laidByText := true, laidKinds := [.data, .data], laidTests := true, laidLooks := .later }
def FoldClosesCardSaid : Prop := Claim7.holds Tryd.pinned (.plain (OpenSpec.ofChange foldClosesSpec)) foldClosesCard

/-- THE TIED CARD OF 'glyphcutterlaw04.FoldTwice'. -/
def foldTwiceCard : Claim7 := { stood := { row := foldTwiceRow, standIns := [], harness := (true, "2ef4c3cc83e078b896b969ae4adb879fe734aea2de4f306af5d3788f19a4e217"), looks := false }, kinds := [], alts := [], laidByText := true, laidKinds := [.data, .data], laidTests := true, laidLooks := .later }
def FoldTwiceCardSaid : Prop := Claim7.holds Tryd.pinned (.plain (OpenSpec.ofChange foldTwiceSpec)) foldTwiceCard

/-- THE SECOND FORM's CARD OF 'glyphcutterlaw04.FoldSmall'. -/
def foldSmallUptoCard : Claim7 := { stood := { row := foldSmallUptoRow, standIns := [], harness := (true, "2ef4c3cc83e078b896b969ae4adb879fe734aea2de4f306af5d3788f19a4e217"), looks := false }, kinds := [], alts := [], laidByText := true, laidKinds := [.data, .data], laidTests := true, laidLooks := .later }
def FoldSmallUptoCardSaid : Prop := Claim7.holds Tryd.pinned (.plain (OpenSpec.upto foldSmallSpec)) foldSmallUptoCard

/-- THE SECOND FORM's CARD OF 'glyphcutterlaw04.FoldUnion'. -/
def foldUnionUptoCard : Claim7 := { stood := { row := foldUnionUptoRow, standIns := [], harness := (true, "2ef4c3cc83e078b896b969ae4adb879fe734aea2de4f306af5d3788f19a4e217"), looks := false }, kinds := [], alts := [], laidByText := true, laidKinds := [.data, .data], laidTests := true, laidLooks := .later }
def FoldUnionUptoCardSaid : Prop := Claim7.holds Tryd.pinned (.plain (OpenSpec.upto foldUnionSpec)) foldUnionUptoCard

/-- THE SECOND FORM's CARD OF 'glyphcutterlaw04.FoldFolds'. -/
def foldFoldsUptoCard : Claim7 := { stood := { row := foldFoldsUptoRow, standIns := [], harness := (true, "2ef4c3cc83e078b896b969ae4adb879fe734aea2de4f306af5d3788f19a4e217"), looks := false }, kinds := [], alts := [], laidByText := true, laidKinds := [.data, .data], laidTests := true, laidLooks := .later }
def FoldFoldsUptoCardSaid : Prop := Claim7.holds Tryd.pinned (.plain (OpenSpec.upto foldFoldsSpec)) foldFoldsUptoCard

/-- THE SECOND FORM's CARD OF 'glyphcutterlaw04.FoldOnce'. -/
def foldOnceUptoCard : Claim7 := { stood := { row := foldOnceUptoRow, standIns := [], harness := (true, "2ef4c3cc83e078b896b969ae4adb879fe734aea2de4f306af5d3788f19a4e217"), looks := false }, kinds := [], alts := [], laidByText := true, laidKinds := [.data, .data], laidTests := true, laidLooks := .later }
def FoldOnceUptoCardSaid : Prop := Claim7.holds Tryd.pinned (.plain (OpenSpec.upto foldOnceSpec)) foldOnceUptoCard

/-- THE SECOND FORM's CARD OF 'glyphcutterlaw04.FoldCloses'. -/
def foldClosesUptoCard : Claim7 := { stood := { row := foldClosesUptoRow, standIns := [], harness := (true, "2ef4c3cc83e078b896b969ae4adb879fe734aea2de4f306af5d3788f19a4e217"), looks := false }, kinds := [], alts := [], laidByText := true, laidKinds := [.data, .data], laidTests := true, laidLooks := .later }
def FoldClosesUptoCardSaid : Prop := Claim7.holds Tryd.pinned (.plain (OpenSpec.upto foldClosesSpec)) foldClosesUptoCard

/-- THE SECOND FORM's CARD OF 'glyphcutterlaw04.FoldTwice'. -/
def foldTwiceUptoCard : Claim7 := { stood := { row := foldTwiceUptoRow, standIns := [], harness := (true, "2ef4c3cc83e078b896b969ae4adb879fe734aea2de4f306af5d3788f19a4e217"), looks := false }, kinds := [], alts := [], laidByText := true, laidKinds := [.data, .data], laidTests := true, laidLooks := .later }
def FoldTwiceUptoCardSaid : Prop := Claim7.holds Tryd.pinned (.plain (OpenSpec.upto foldTwiceSpec)) foldTwiceUptoCard
end Rows
end Go.Proofs.YtmmghgfkpndokaaDoor
