/-
  DERIVED. GIVEN WITH THE SEED: THE CARDS: each row of YtnhkbafjjngomaaDoorRows.lean that lists a variable, with what it lists TIED to the program's text (the seventh form; the later family's looks); each row that meets fmt, with fmt's text TOLD by the authors' own Lean function (tested against real Go, not proved from fmt's source: count such statements apart). THE CARD IS WHAT COUNTS. Prove the row's statement (the work); the ties are given (YtnhkbafjjngomaaDoorTie.lean); close each card by the builder's one call (the guide's Derived/Test/ToyasCard.lean, 'card_holds'). Laid BY PROGRAM, IN A SANDBOX (cutbox-door.mjs). By AI agents, Wed Nov 11 2026. No macro, syntax, notation, axiom, sorry.
-/
import Derived.Test.YtnhkbafjjngomaaDoorRows
import GoSem.ClaimSeven
namespace Go.Proofs.YtnhkbafjjngomaaDoor
namespace Rows

/-- THE TIED CARD OF 'glyphcutterlaw01.SetOne'. -/
def setOneCard : Claim7 := { stood := { row := setOneRow, standIns := [], harness := (true, "ea64c96c90cfd2a3785e6b9bac3b25bd85d501333bad79ba37e2b3d8a4ffb075"), looks := false }, kinds := [], alts := [], laidByText := true, laidKinds := [.data], laidTests := true, laidLooks := .later }
def SetOneCardSaid : Prop := Claim7.holds Tryd.pinned (.plain (OpenSpec.ofChange setOneSpec)) setOneCard

/-- THE TIED CARD OF 'glyphcutterlaw01.SetNorms'. -/
def setNormsCard : Claim7 := { stood := { row := setNormsRow, standIns := [], harness := (true, "ea64c96c90cfd2a3785e6b9bac3b25bd85d501333bad79ba37e2b3d8a4ffb075"), looks := false }, kinds := [], alts := [], laidByText := true, laidKinds := [.data], laidTests := true, laidLooks := .later }
def SetNormsCardSaid : Prop := Claim7.holds Tryd.pinned (.plain (OpenSpec.ofChange setNormsSpec)) setNormsCard

/-- THE TIED CARD OF 'glyphcutterlaw01.SetTwo'. -/
def setTwoCard : Claim7 := { stood := { row := setTwoRow, standIns := [], harness := (true, "ea64c96c90cfd2a3785e6b9bac3b25bd85d501333bad79ba37e2b3d8a4ffb075"), looks := false }, kinds := [], alts := [], laidByText := true, laidKinds := [.data], laidTests := true, laidLooks := .later }
def SetTwoCardSaid : Prop := Claim7.holds Tryd.pinned (.plain (OpenSpec.ofChange setTwoSpec)) setTwoCard

/-- THE TIED CARD OF 'glyphcutterlaw01.SetUnions'. -/
def setUnionsCard : Claim7 := { stood := { row := setUnionsRow, standIns := [], harness := (true, "ea64c96c90cfd2a3785e6b9bac3b25bd85d501333bad79ba37e2b3d8a4ffb075"), looks := false }, kinds := [], alts := [], laidByText := true, laidKinds := [.data], laidTests := true, laidLooks := .later }
def SetUnionsCardSaid : Prop := Claim7.holds Tryd.pinned (.plain (OpenSpec.ofChange setUnionsSpec)) setUnionsCard

/-- THE TIED CARD OF 'glyphcutterlaw01.SetMembers'. -/
def setMembersCard : Claim7 := { stood := { row := setMembersRow, standIns := [], harness := (true, "ea64c96c90cfd2a3785e6b9bac3b25bd85d501333bad79ba37e2b3d8a4ffb075"), looks := false }, kinds := [], alts := [], laidByText := true, laidKinds := [.data], laidTests := true, laidLooks := .later }
def SetMembersCardSaid : Prop := Claim7.holds Tryd.pinned (.plain (OpenSpec.ofChange setMembersSpec)) setMembersCard

/-- THE TIED CARD OF 'glyphcutterlaw01.SetLaws'. -/
def setLawsCard : Claim7 := { stood := { row := setLawsRow, standIns := [], harness := (true, "ea64c96c90cfd2a3785e6b9bac3b25bd85d501333bad79ba37e2b3d8a4ffb075"), looks := false }, kinds := [], alts := [], laidByText := true, laidKinds := [.data], laidTests := true, laidLooks := .later }
def SetLawsCardSaid : Prop := Claim7.holds Tryd.pinned (.plain (OpenSpec.ofChange setLawsSpec)) setLawsCard

/-- THE TIED CARD OF 'glyphcutterlaw01.SetSizes'. -/
def setSizesCard : Claim7 := { stood := { row := setSizesRow, standIns := [], harness := (true, "ea64c96c90cfd2a3785e6b9bac3b25bd85d501333bad79ba37e2b3d8a4ffb075"), looks := false }, kinds := [], alts := [], laidByText := true, laidKinds := [.data], laidTests := true, laidLooks := .later }
def SetSizesCardSaid : Prop := Claim7.holds Tryd.pinned (.plain (OpenSpec.ofChange setSizesSpec)) setSizesCard

/-- THE TIED CARD OF 'glyphcutterlaw01.SetShort'. -/
def setShortCard : Claim7 := { stood := { row := setShortRow, standIns := [], harness := (true, "ea64c96c90cfd2a3785e6b9bac3b25bd85d501333bad79ba37e2b3d8a4ffb075"), looks := false }, kinds := [], alts := [], laidByText := true, laidKinds := [.data], laidTests := true, laidLooks := .later }
def SetShortCardSaid : Prop := Claim7.holds Tryd.pinned (.plain (OpenSpec.ofChange setShortSpec)) setShortCard

/-- THE TIED CARD OF 'glyphcutterlaw01.SetKeeps'. -/
def setKeepsCard : Claim7 := { stood := { row := setKeepsRow, standIns := [], harness := (true, "ea64c96c90cfd2a3785e6b9bac3b25bd85d501333bad79ba37e2b3d8a4ffb075"), looks := false }, kinds := [], alts := [], laidByText := true, laidKinds := [.data], laidTests := true, laidLooks := .later }
def SetKeepsCardSaid : Prop := Claim7.holds Tryd.pinned (.plain (OpenSpec.ofChange setKeepsSpec)) setKeepsCard

/-- THE SECOND FORM's CARD OF 'glyphcutterlaw01.SetOne'. -/
def setOneUptoCard : Claim7 := { stood := { row := setOneUptoRow, standIns := [], harness := (true, "ea64c96c90cfd2a3785e6b9bac3b25bd85d501333bad79ba37e2b3d8a4ffb075"), looks := false }, kinds := [], alts := [], laidByText := true, laidKinds := [.data], laidTests := true, laidLooks := .later }
def SetOneUptoCardSaid : Prop := Claim7.holds Tryd.pinned (.plain (OpenSpec.upto setOneSpec)) setOneUptoCard

/-- THE SECOND FORM's CARD OF 'glyphcutterlaw01.SetNorms'. -/
def setNormsUptoCard : Claim7 := { stood := { row := setNormsUptoRow, standIns := [], harness := (true, "ea64c96c90cfd2a3785e6b9bac3b25bd85d501333bad79ba37e2b3d8a4ffb075"), looks := false }, kinds := [], alts := [], laidByText := true, laidKinds := [.data], laidTests := true, laidLooks := .later }
def SetNormsUptoCardSaid : Prop := Claim7.holds Tryd.pinned (.plain (OpenSpec.upto setNormsSpec)) setNormsUptoCard

/-- THE SECOND FORM's CARD OF 'glyphcutterlaw01.SetTwo'. -/
def setTwoUptoCard : Claim7 := { stood := { row := setTwoUptoRow, standIns := [], harness := (true, "ea64c96c90cfd2a3785e6b9bac3b25bd85d501333bad79ba37e2b3d8a4ffb075"), looks := false }, kinds := [], alts := [], laidByText := true, laidKinds := [.data], laidTests := true, laidLooks := .later }
def SetTwoUptoCardSaid : Prop := Claim7.holds Tryd.pinned (.plain (OpenSpec.upto setTwoSpec)) setTwoUptoCard

/-- THE SECOND FORM's CARD OF 'glyphcutterlaw01.SetUnions'. -/
def setUnionsUptoCard : Claim7 := { stood := { row := setUnionsUptoRow, standIns := [], harness := (true, "ea64c96c90cfd2a3785e6b9bac3b25bd85d501333bad79ba37e2b3d8a4ffb075"), looks := false }, kinds := [], alts := [], laidByText := true, laidKinds := [.data], laidTests := true, laidLooks := .later }
def SetUnionsUptoCardSaid : Prop := Claim7.holds Tryd.pinned (.plain (OpenSpec.upto setUnionsSpec)) setUnionsUptoCard

/-- THE SECOND FORM's CARD OF 'glyphcutterlaw01.SetMembers'. -/
def setMembersUptoCard : Claim7 := { stood := { row := setMembersUptoRow, standIns := [], harness := (true, "ea64c96c90cfd2a3785e6b9bac3b25bd85d501333bad79ba37e2b3d8a4ffb075"), looks := false }, kinds := [], alts := [], laidByText := true, laidKinds := [.data], laidTests := true, laidLooks := .later }
def SetMembersUptoCardSaid : Prop := Claim7.holds Tryd.pinned (.plain (OpenSpec.upto setMembersSpec)) setMembersUptoCard

/-- THE SECOND FORM's CARD OF 'glyphcutterlaw01.SetLaws'. -/
def setLawsUptoCard : Claim7 := { stood := { row := setLawsUptoRow, standIns := [], harness := (true, "ea64c96c90cfd2a3785e6b9bac3b25bd85d501333bad79ba37e2b3d8a4ffb075"), looks := false }, kinds := [], alts := [], laidByText := true, laidKinds := [.data], laidTests := true, laidLooks := .later }
def SetLawsUptoCardSaid : Prop := Claim7.holds Tryd.pinned (.plain (OpenSpec.upto setLawsSpec)) setLawsUptoCard

/-- THE SECOND FORM's CARD OF 'glyphcutterlaw01.SetSizes'. -/
def setSizesUptoCard : Claim7 := { stood := { row := setSizesUptoRow, standIns := [], harness := (true, "ea64c96c90cfd2a3785e6b9bac3b25bd85d501333bad79ba37e2b3d8a4ffb075"), looks := false }, kinds := [], alts := [], laidByText := true, laidKinds := [.data], laidTests := true, laidLooks := .later }
def SetSizesUptoCardSaid : Prop := Claim7.holds Tryd.pinned (.plain (OpenSpec.upto setSizesSpec)) setSizesUptoCard

/-- THE SECOND FORM's CARD OF 'glyphcutterlaw01.SetShort'. -/
def setShortUptoCard : Claim7 := { stood := { row := setShortUptoRow, standIns := [], harness := (true, "ea64c96c90cfd2a3785e6b9bac3b25bd85d501333bad79ba37e2b3d8a4ffb075"), looks := false }, kinds := [], alts := [], laidByText := true, laidKinds := [.data], laidTests := true, laidLooks := .later }
def SetShortUptoCardSaid : Prop := Claim7.holds Tryd.pinned (.plain (OpenSpec.upto setShortSpec)) setShortUptoCard

/-- THE SECOND FORM's CARD OF 'glyphcutterlaw01.SetKeeps'. -/
def setKeepsUptoCard : Claim7 := { stood := { row := setKeepsUptoRow, standIns := [], harness := (true, "ea64c96c90cfd2a3785e6b9bac3b25bd85d501333bad79ba37e2b3d8a4ffb075"), looks := false }, kinds := [], alts := [], laidByText := true, laidKinds := [.data], laidTests := true, laidLooks := .later }
def SetKeepsUptoCardSaid : Prop := Claim7.holds Tryd.pinned (.plain (OpenSpec.upto setKeepsSpec)) setKeepsUptoCard
end Rows
end Go.Proofs.YtnhkbafjjngomaaDoor
