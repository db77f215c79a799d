/-
  DERIVED. GIVEN WITH THE SEED: THE CARDS: each row of YtahgljglleeloaaGreatDoorRows.lean that lists a variable, with what it lists TIED to the program's text (the seventh form; the later family's looks); each row that meets fmt, with fmt's text TOLD by the authors' own Lean function (tested against real Go, not proved from fmt's source: count such statements apart). THE CARD IS WHAT COUNTS. Prove the row's statement (the work); the ties are given (YtahgljglleeloaaGreatDoorTie.lean); close each card by the builder's one call (the guide's Derived/Test/ToyasCard.lean, 'card_holds'). Laid BY PROGRAM, IN A SANDBOX (cutbox-door.mjs). By AI agents, Wed Nov 11 2026. No macro, syntax, notation, axiom, sorry.
-/
import Derived.Test.YtahgljglleeloaaGreatDoorRows
import GoSem.ClaimSeven
namespace Go.Proofs.YtahgljglleeloaaGreatDoor
namespace Rows

/-- THE TIED CARD OF 'glyphcutterlaw06.RxHex'. -/
def rxHexCard : Claim7 := { stood := { row := rxHexRow, standIns := [], harness := (true, "4ce4b79550822e508788eec78eca90a5ea63e1a57156ef9393a744000b0e26d2"), looks := true }, kinds := [], alts := [], laidByText := true, laidKinds := [.data, .data, .data, .data, .data, .sentinel, .sentinel], laidTests := true, laidLooks := .later }
def RxHexCardSaid : Prop := Claim7.holds Tryz.pinned (.plain (OpenSpec.ofChange rxHexSpec)) rxHexCard

/-- THE TIED CARD OF 'glyphcutterlaw06.RxTimes'. -/
def rxTimesCard : Claim7 := { stood := { row := rxTimesRow, standIns := [], harness := (true, "4ce4b79550822e508788eec78eca90a5ea63e1a57156ef9393a744000b0e26d2"), looks := true }, kinds := [], alts := [], laidByText := true, laidKinds := [.data, .data, .data, .data, .data, .sentinel, .sentinel], laidTests := true, laidLooks := .later }
def RxTimesCardSaid : Prop := Claim7.holds Tryz.pinned (.plain (OpenSpec.ofChange rxTimesSpec)) rxTimesCard

/-- THE TIED CARD OF 'glyphcutterlaw06.RxPlain'. -/
def rxPlainCard : Claim7 := { stood := { row := rxPlainRow, standIns := [], harness := (true, "4ce4b79550822e508788eec78eca90a5ea63e1a57156ef9393a744000b0e26d2"), looks := true }, kinds := [], alts := [], laidByText := true, laidKinds := [.data, .data, .data, .data, .data, .sentinel, .sentinel], laidTests := true, laidLooks := .later }
def RxPlainCardSaid : Prop := Claim7.holds Tryz.pinned (.plain (OpenSpec.ofChange rxPlainSpec)) rxPlainCard

/-- THE TIED CARD OF 'glyphcutterlaw06.RxBrackets'. -/
def rxBracketsCard : Claim7 := { stood := { row := rxBracketsRow, standIns := [], harness := (true, "4ce4b79550822e508788eec78eca90a5ea63e1a57156ef9393a744000b0e26d2"), looks := true }, kinds := [], alts := [], laidByText := true, laidKinds := [.data, .data, .data, .data, .data, .sentinel, .sentinel], laidTests := true, laidLooks := .later }
def RxBracketsCardSaid : Prop := Claim7.holds Tryz.pinned (.plain (OpenSpec.ofChange rxBracketsSpec)) rxBracketsCard

/-- THE TIED CARD OF 'glyphcutterlaw06.RxDeep'. -/
def rxDeepCard : Claim7 := { stood := { row := rxDeepRow, standIns := [], harness := (true, "4ce4b79550822e508788eec78eca90a5ea63e1a57156ef9393a744000b0e26d2"), looks := true }, kinds := [], alts := [], laidByText := true, laidKinds := [.data, .data, .data, .data, .data, .sentinel, .sentinel], laidTests := true, laidLooks := .later }
def RxDeepCardSaid : Prop := Claim7.holds Tryz.pinned (.plain (OpenSpec.ofChange rxDeepSpec)) rxDeepCard

/-- THE TIED CARD OF 'glyphcutterlaw06.RxFirst'. -/
def rxFirstCard : Claim7 := { stood := { row := rxFirstRow, standIns := [], harness := (true, "4ce4b79550822e508788eec78eca90a5ea63e1a57156ef9393a744000b0e26d2"), looks := true }, kinds := [], alts := [], laidByText := true, laidKinds := [.data, .data, .data, .data, .data, .sentinel, .sentinel], laidTests := true, laidLooks := .later }
def RxFirstCardSaid : Prop := Claim7.holds Tryz.pinned (.plain (OpenSpec.ofChange rxFirstSpec)) rxFirstCard

/-- THE SECOND FORM's CARD OF 'glyphcutterlaw06.RxHex'. -/
def rxHexUptoCard : Claim7 := { stood := { row := rxHexUptoRow, standIns := [], harness := (true, "4ce4b79550822e508788eec78eca90a5ea63e1a57156ef9393a744000b0e26d2"), looks := true }, kinds := [], alts := [], laidByText := true, laidKinds := [.data, .data, .data, .data, .data, .sentinel, .sentinel], laidTests := true, laidLooks := .later }
def RxHexUptoCardSaid : Prop := Claim7.holds Tryz.pinned (.plain (OpenSpec.upto rxHexSpec)) rxHexUptoCard

/-- THE SECOND FORM's CARD OF 'glyphcutterlaw06.RxTimes'. -/
def rxTimesUptoCard : Claim7 := { stood := { row := rxTimesUptoRow, standIns := [], harness := (true, "4ce4b79550822e508788eec78eca90a5ea63e1a57156ef9393a744000b0e26d2"), looks := true }, kinds := [], alts := [], laidByText := true, laidKinds := [.data, .data, .data, .data, .data, .sentinel, .sentinel], laidTests := true, laidLooks := .later }
def RxTimesUptoCardSaid : Prop := Claim7.holds Tryz.pinned (.plain (OpenSpec.upto rxTimesSpec)) rxTimesUptoCard

/-- THE SECOND FORM's CARD OF 'glyphcutterlaw06.RxPlain'. -/
def rxPlainUptoCard : Claim7 := { stood := { row := rxPlainUptoRow, standIns := [], harness := (true, "4ce4b79550822e508788eec78eca90a5ea63e1a57156ef9393a744000b0e26d2"), looks := true }, kinds := [], alts := [], laidByText := true, laidKinds := [.data, .data, .data, .data, .data, .sentinel, .sentinel], laidTests := true, laidLooks := .later }
def RxPlainUptoCardSaid : Prop := Claim7.holds Tryz.pinned (.plain (OpenSpec.upto rxPlainSpec)) rxPlainUptoCard

/-- THE SECOND FORM's CARD OF 'glyphcutterlaw06.RxBrackets'. -/
def rxBracketsUptoCard : Claim7 := { stood := { row := rxBracketsUptoRow, standIns := [], harness := (true, "4ce4b79550822e508788eec78eca90a5ea63e1a57156ef9393a744000b0e26d2"), looks := true }, kinds := [], alts := [], laidByText := true, laidKinds := [.data, .data, .data, .data, .data, .sentinel, .sentinel], laidTests := true, laidLooks := .later }
def RxBracketsUptoCardSaid : Prop := Claim7.holds Tryz.pinned (.plain (OpenSpec.upto rxBracketsSpec)) rxBracketsUptoCard

/-- THE SECOND FORM's CARD OF 'glyphcutterlaw06.RxDeep'. -/
def rxDeepUptoCard : Claim7 := { stood := { row := rxDeepUptoRow, standIns := [], harness := (true, "4ce4b79550822e508788eec78eca90a5ea63e1a57156ef9393a744000b0e26d2"), looks := true }, kinds := [], alts := [], laidByText := true, laidKinds := [.data, .data, .data, .data, .data, .sentinel, .sentinel], laidTests := true, laidLooks := .later }
def RxDeepUptoCardSaid : Prop := Claim7.holds Tryz.pinned (.plain (OpenSpec.upto rxDeepSpec)) rxDeepUptoCard

/-- THE SECOND FORM's CARD OF 'glyphcutterlaw06.RxFirst'. -/
def rxFirstUptoCard : Claim7 := { stood := { row := rxFirstUptoRow, standIns := [], harness := (true, "4ce4b79550822e508788eec78eca90a5ea63e1a57156ef9393a744000b0e26d2"), looks := true }, kinds := [], alts := [], laidByText := true, laidKinds := [.data, .data, .data, .data, .data, .sentinel, .sentinel], laidTests := true, laidLooks := .later }
def RxFirstUptoCardSaid : Prop := Claim7.holds Tryz.pinned (.plain (OpenSpec.upto rxFirstSpec)) rxFirstUptoCard
end Rows
end Go.Proofs.YtahgljglleeloaaGreatDoor
