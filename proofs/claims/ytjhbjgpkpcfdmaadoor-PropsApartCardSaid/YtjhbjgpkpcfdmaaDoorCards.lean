/-
  DERIVED. GIVEN WITH THE SEED: THE CARDS: each row of YtjhbjgpkpcfdmaaDoorRows.lean that lists a variable, with what it lists TIED to the program's text (the seventh form; the later family's looks); each row that meets fmt, with fmt's text TOLD by the authors' own Lean function (tested against real Go, not proved from fmt's source: count such statements apart). THE CARD IS WHAT COUNTS. Prove the row's statement (the work); the ties are given (YtjhbjgpkpcfdmaaDoorTie.lean); close each card by the builder's one call (the guide's Derived/Test/ToyasCard.lean, 'card_holds'). Laid BY PROGRAM, IN A SANDBOX (cutbox-door.mjs). By AI agents, Wed Nov 11 2026. No macro, syntax, notation, axiom, sorry.
-/
import Derived.Test.YtjhbjgpkpcfdmaaDoorRows
import GoSem.ClaimSeven
namespace Go.Proofs.YtjhbjgpkpcfdmaaDoor
namespace Rows

/-- THE TIED CARD OF 'glyphcutterlaw05.PropsApart'. -/
def propsApartCard : Claim7 := { stood := { row := propsApartRow, standIns := [], harness := (true, "f661a23a7138ff0ef458d2279e027d6cf12b98f4a4fbec59c0d2e44c624aa444"), looks := false }, kinds := [], alts := [], laidByText := true, laidKinds := [.data], laidTests := true, laidLooks := .later }
def PropsApartCardSaid : Prop := Claim7.holds Tryd.pinned (.plain (OpenSpec.ofChange propsApartSpec)) propsApartCard

/-- THE TIED CARD OF 'glyphcutterlaw05.PropsAll'. -/
def propsAllCard : Claim7 := { stood := { row := propsAllRow, standIns := [], harness := (true, "f661a23a7138ff0ef458d2279e027d6cf12b98f4a4fbec59c0d2e44c624aa444"), looks := false }, kinds := [], alts := [], laidByText := true, laidKinds := [.data], laidTests := true, laidLooks := .later }
def PropsAllCardSaid : Prop := Claim7.holds Tryd.pinned (.plain (OpenSpec.ofChange propsAllSpec)) propsAllCard

/-- THE TIED CARD OF 'glyphcutterlaw05.PropsOf'. -/
def propsOfCard : Claim7 := { stood := { row := propsOfRow, standIns := [], harness := (true, "f661a23a7138ff0ef458d2279e027d6cf12b98f4a4fbec59c0d2e44c624aa444"), looks := false }, kinds := [], alts := [], laidByText := true, laidKinds := [.data], laidTests := true, laidLooks := .later }
def PropsOfCardSaid : Prop := Claim7.holds Tryd.pinned (.plain (OpenSpec.ofChange propsOfSpec)) propsOfCard

/-- THE TIED CARD OF 'glyphcutterlaw05.PropsNames'. -/
def propsNamesCard : Claim7 := { stood := { row := propsNamesRow, standIns := [], harness := (true, "f661a23a7138ff0ef458d2279e027d6cf12b98f4a4fbec59c0d2e44c624aa444"), looks := false }, kinds := [], alts := [], laidByText := true, laidKinds := [.data], laidTests := true, laidLooks := .later }
def PropsNamesCardSaid : Prop := Claim7.holds Tryd.pinned (.plain (OpenSpec.ofChange propsNamesSpec)) propsNamesCard

/-- THE TIED CARD OF 'glyphcutterlaw05.PropsLoose'. -/
def propsLooseCard : Claim7 := { stood := { row := propsLooseRow, standIns := [], harness := (true, "f661a23a7138ff0ef458d2279e027d6cf12b98f4a4fbec59c0d2e44c624aa444"), looks := false }, kinds := [], alts := [], laidByText := true, laidKinds := [.data], laidTests := true, laidLooks := .later }
def PropsLooseCardSaid : Prop := Claim7.holds Tryd.pinned (.plain (OpenSpec.ofChange propsLooseSpec)) propsLooseCard

/-- THE TIED CARD OF 'glyphcutterlaw05.PropsMade'. -/
def propsMadeCard : Claim7 := { stood := { row := propsMadeRow, standIns := [], harness := (true, "f661a23a7138ff0ef458d2279e027d6cf12b98f4a4fbec59c0d2e44c624aa444"), looks := false }, kinds := [], alts := [], laidByText := true, laidKinds := [.data], laidTests := true, laidLooks := .later }
def PropsMadeCardSaid : Prop := Claim7.holds Tryd.pinned (.plain (OpenSpec.ofChange propsMadeSpec)) propsMadeCard

/-- THE SECOND FORM's CARD OF 'glyphcutterlaw05.PropsApart'. -/
def propsApartUptoCard : Claim7 := { stood := { row := propsApartUptoRow, standIns := [], harness := (true, "f661a23a7138ff0ef458d2279e027d6cf12b98f4a4fbec59c0d2e44c624aa444"), looks := false }, kinds := [], alts := [], laidByText := true, laidKinds := [.data], laidTests := true, laidLooks := .later }
def PropsApartUptoCardSaid : Prop := Claim7.holds Tryd.pinned (.plain (OpenSpec.upto propsApartSpec)) propsApartUptoCard

/-- THE SECOND FORM's CARD OF 'glyphcutterlaw05.PropsAll'. -/
def propsAllUptoCard : Claim7 := { stood := { row := propsAllUptoRow, standIns := [], harness := (true, "f661a23a7138ff0ef458d2279e027d6cf12b98f4a4fbec59c0d2e44c624aa444"), looks := false }, kinds := [], alts := [], laidByText := true, laidKinds := [.data], laidTests := true, laidLooks := .later }
def PropsAllUptoCardSaid : Prop := Claim7.holds Tryd.pinned (.plain (OpenSpec.upto propsAllSpec)) propsAllUptoCard

/-- THE SECOND FORM's CARD OF 'glyphcutterlaw05.PropsOf'. -/
def propsOfUptoCard : Claim7 := { stood := { row := propsOfUptoRow, standIns := [], harness := (true, "f661a23a7138ff0ef458d2279e027d6cf12b98f4a4fbec59c0d2e44c624aa444"), looks := false }, kinds := [], alts := [], laidByText := true, laidKinds := [.data], laidTests := true, laidLooks := .later }
def PropsOfUptoCardSaid : Prop := Claim7.holds Tryd.pinned (.plain (OpenSpec.upto propsOfSpec)) propsOfUptoCard

/-- THE SECOND FORM's CARD OF 'glyphcutterlaw05.PropsNames'. -/
def propsNamesUptoCard : Claim7 := { stood := { row := propsNamesUptoRow, standIns := [], harness := (true, "f661a23a7138ff0ef458d2279e027d6cf12b98f4a4fbec59c0d2e44c624aa444"), looks := false }, kinds := [], alts := [], laidByText := true, laidKinds := [.data], laidTests := true, laidLooks := .later }
def PropsNamesUptoCardSaid : Prop := Claim7.holds Tryd.pinned (.plain (OpenSpec.upto propsNamesSpec)) propsNamesUptoCard

/-- THE SECOND FORM's CARD OF 'glyphcutterlaw05.PropsLoose'. -/
def propsLooseUptoCard : Claim7 := { stood := { row := propsLooseUptoRow, standIns := [], harness := (true, "f661a23a7138ff0ef458d2279e027d6cf12b98f4a4fbec59c0d2e44c624aa444"), looks := false }, kinds := [], alts := [], laidByText := true, laidKinds := [.data], laidTests := true, laidLooks := .later }
def PropsLooseUptoCardSaid : Prop := Claim7.holds Tryd.pinned (.plain (OpenSpec.upto propsLooseSpec)) propsLooseUptoCard

/-- THE SECOND FORM's CARD OF 'glyphcutterlaw05.PropsMade'. -/
def propsMadeUptoCard : Claim7 := { stood := { row := propsMadeUptoRow, standIns := [], harness := (true, "f661a23a7138ff0ef458d2279e027d6cf12b98f4a4fbec59c0d2e44c624aa444"), looks := false }, kinds := [], alts := [], laidByText := true, laidKinds := [.data], laidTests := true, laidLooks := .later }
def PropsMadeUptoCardSaid : Prop := Claim7.holds Tryd.pinned (.plain (OpenSpec.upto propsMadeSpec)) propsMadeUptoCard
end Rows
end Go.Proofs.YtjhbjgpkpcfdmaaDoor
