/-
  DERIVED. GIVEN WITH THE SEED: THE CARDS: each row of YtkphbjppmiefkaaDoorRows.lean that lists a variable, with what it lists TIED to the program's text (the seventh form; the later family's looks); each row that meets fmt, with fmt's text TOLD by the authors' own Lean function (tested against real Go, not proved from fmt's source: count such statements apart). THE CARD IS WHAT COUNTS. Prove the row's statement (the work); the ties are given (YtkphbjppmiefkaaDoorTie.lean); close each card by the builder's one call (the guide's Derived/Test/ToyasCard.lean, 'card_holds'). Laid BY PROGRAM, IN A SANDBOX (cutbox-door.mjs). By AI agents, Wed Nov 11 2026. No macro, syntax, notation, axiom, sorry.
-/
import Derived.Test.YtkphbjppmiefkaaDoorRows
import GoSem.ClaimSeven
namespace Go.Proofs.YtkphbjppmiefkaaDoor
namespace Rows

/-- THE TIED CARD OF 'glyphcutterlaw10.TermsOne'. -/
def termsOneCard : Claim7 := { stood := { row := termsOneRow, standIns := [], harness := (true, "0636d86475f0cc0f52870656a2fcd7d9f4a46df891d267cd49a6f587d0bd641e"), looks := false }, kinds := [], alts := [], laidByText := true, laidKinds := [.data], laidTests := true, laidLooks := .later }
def TermsOneCardSaid : Prop := Claim7.holds Tryd.pinned (.plain (OpenSpec.ofChange termsOneSpec)) termsOneCard

/-- THE TIED CARD OF 'glyphcutterlaw10.TermsOf'. -/
def termsOfCard : Claim7 := { stood := { row := termsOfRow, standIns := [], harness := (true, "0636d86475f0cc0f52870656a2fcd7d9f4a46df891d267cd49a6f587d0bd641e"), looks := false }, kinds := [], alts := [], laidByText := true, laidKinds := [.data], laidTests := true, laidLooks := .later }
def TermsOfCardSaid : Prop := Claim7.holds Tryd.pinned (.plain (OpenSpec.ofChange termsOfSpec)) termsOfCard

/-- THE TIED CARD OF 'glyphcutterlaw10.TermsWhich'. -/
def termsWhichCard : Claim7 := { stood := { row := termsWhichRow, standIns := [], harness := (true, "0636d86475f0cc0f52870656a2fcd7d9f4a46df891d267cd49a6f587d0bd641e"), looks := false }, kinds := [], alts := [], laidByText := true, laidKinds := [.data], laidTests := true, laidLooks := .later }
def TermsWhichCardSaid : Prop := Claim7.holds Tryd.pinned (.plain (OpenSpec.ofChange termsWhichSpec)) termsWhichCard

/-- THE TIED CARD OF 'glyphcutterlaw10.TermsApart'. -/
def termsApartCard : Claim7 := { stood := { row := termsApartRow, standIns := [], harness := (true, "0636d86475f0cc0f52870656a2fcd7d9f4a46df891d267cd49a6f587d0bd641e"), looks := false }, kinds := [], alts := [], laidByText := true, laidKinds := [.data], laidTests := true, laidLooks := .later }
def TermsApartCardSaid : Prop := Claim7.holds Tryd.pinned (.plain (OpenSpec.ofChange termsApartSpec)) termsApartCard

/-- THE TIED CARD OF 'glyphcutterlaw10.TermsMake'. -/
def termsMakeCard : Claim7 := { stood := { row := termsMakeRow, standIns := [], harness := (true, "0636d86475f0cc0f52870656a2fcd7d9f4a46df891d267cd49a6f587d0bd641e"), looks := false }, kinds := [], alts := [], laidByText := true, laidKinds := [.data], laidTests := true, laidLooks := .later }
def TermsMakeCardSaid : Prop := Claim7.holds Tryd.pinned (.plain (OpenSpec.ofChange termsMakeSpec)) termsMakeCard

/-- THE TIED CARD OF 'glyphcutterlaw10.TermsFew'. -/
def termsFewCard : Claim7 := { stood := { row := termsFewRow, standIns := [], harness := (true, "0636d86475f0cc0f52870656a2fcd7d9f4a46df891d267cd49a6f587d0bd641e"), looks := false }, kinds := [], alts := [], laidByText := true, laidKinds := [.data], laidTests := true, laidLooks := .later }
def TermsFewCardSaid : Prop := Claim7.holds Tryd.pinned (.plain (OpenSpec.ofChange termsFewSpec)) termsFewCard

/-- THE SECOND FORM's CARD OF 'glyphcutterlaw10.TermsOne'. -/
def termsOneUptoCard : Claim7 := { stood := { row := termsOneUptoRow, standIns := [], harness := (true, "0636d86475f0cc0f52870656a2fcd7d9f4a46df891d267cd49a6f587d0bd641e"), looks := false }, kinds := [], alts := [], laidByText := true, laidKinds := [.data], laidTests := true, laidLooks := .later }
def TermsOneUptoCardSaid : Prop := Claim7.holds Tryd.pinned (.plain (OpenSpec.upto termsOneSpec)) termsOneUptoCard

/-- THE SECOND FORM's CARD OF 'glyphcutterlaw10.TermsOf'. -/
def termsOfUptoCard : Claim7 := { stood := { row := termsOfUptoRow, standIns := [], harness := (true, "0636d86475f0cc0f52870656a2fcd7d9f4a46df891d267cd49a6f587d0bd641e"), looks := false }, kinds := [], alts := [], laidByText := true, laidKinds := [.data], laidTests := true, laidLooks := .later }
def TermsOfUptoCardSaid : Prop := Claim7.holds Tryd.pinned (.plain (OpenSpec.upto termsOfSpec)) termsOfUptoCard

/-- THE SECOND FORM's CARD OF 'glyphcutterlaw10.TermsWhich'. -/
def termsWhichUptoCard : Claim7 := { stood := { row := termsWhichUptoRow, standIns := [], harness := (true, "0636d86475f0cc0f52870656a2fcd7d9f4a46df891d267cd49a6f587d0bd641e"), looks := false }, kinds := [], alts := [], laidByText := true, laidKinds := [.data], laidTests := true, laidLooks := .later }
def TermsWhichUptoCardSaid : Prop := Claim7.holds Tryd.pinned (.plain (OpenSpec.upto termsWhichSpec)) termsWhichUptoCard

/-- THE SECOND FORM's CARD OF 'glyphcutterlaw10.TermsApart'. -/
def termsApartUptoCard : Claim7 := { stood := { row := termsApartUptoRow, standIns := [], harness := (true, "0636d86475f0cc0f52870656a2fcd7d9f4a46df891d267cd49a6f587d0bd641e"), looks := false }, kinds := [], alts := [], laidByText := true, laidKinds := [.data], laidTests := true, laidLooks := .later }
def TermsApartUptoCardSaid : Prop := Claim7.holds Tryd.pinned (.plain (OpenSpec.upto termsApartSpec)) termsApartUptoCard

/-- THE SECOND FORM's CARD OF 'glyphcutterlaw10.TermsMake'. -/
def termsMakeUptoCard : Claim7 := { stood := { row := termsMakeUptoRow, standIns := [], harness := (true, "0636d86475f0cc0f52870656a2fcd7d9f4a46df891d267cd49a6f587d0bd641e"), looks := false }, kinds := [], alts := [], laidByText := true, laidKinds := [.data], laidTests := true, laidLooks := .later }
def TermsMakeUptoCardSaid : Prop := Claim7.holds Tryd.pinned (.plain (OpenSpec.upto termsMakeSpec)) termsMakeUptoCard

/-- THE SECOND FORM's CARD OF 'glyphcutterlaw10.TermsFew'. -/
def termsFewUptoCard : Claim7 := { stood := { row := termsFewUptoRow, standIns := [], harness := (true, "0636d86475f0cc0f52870656a2fcd7d9f4a46df891d267cd49a6f587d0bd641e"), looks := false }, kinds := [], alts := [], laidByText := true, laidKinds := [.data], laidTests := true, laidLooks := .later }
def TermsFewUptoCardSaid : Prop := Claim7.holds Tryd.pinned (.plain (OpenSpec.upto termsFewSpec)) termsFewUptoCard
end Rows
end Go.Proofs.YtkphbjppmiefkaaDoor
