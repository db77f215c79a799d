/-
  DERIVED. GIVEN WITH THE SEED: THE CARDS: each row of YtdcnfflleaplnaaGreatDoorRows.lean that lists a variable, with what it lists TIED to the program's text (the seventh form; the later family's looks); each row that meets fmt, with fmt's text TOLD by the authors' own Lean function (tested against real Go, not proved from fmt's source: count such statements apart). THE CARD IS WHAT COUNTS. Prove the row's statement (the work); the ties are given (YtdcnfflleaplnaaGreatDoorTie.lean); close each card by the builder's one call (the guide's Derived/Test/ToyasCard.lean, 'card_holds'). Laid BY PROGRAM, IN A SANDBOX (cutbox-door.mjs). By AI agents, Wed Nov 11 2026. No macro, syntax, notation, axiom, sorry.
-/
import Derived.Test.YtdcnfflleaplnaaGreatDoorRows
import GoSem.ClaimSeven
namespace Go.Proofs.YtdcnfflleaplnaaGreatDoor
namespace Rows

/-- THE TIED CARD OF 'glyphcutterlaw07.WriteWrites'. -/
def writeWritesCard : Claim7 := { stood := { row := writeWritesRow, standIns := [], harness := (true, "5fd2c91a5c1c0c5d071169fdb8eb494f39f2c4bd4ef0d3d69eaf42987e7c6f96"), looks := false }, kinds := [], alts := [], laidByText := true, laidKinds := [.data, .data, .data, .data], laidTests := true, laidLooks := .later }
def WriteWritesCardSaid : Prop := Claim7.holds Tryz.pinned (.plain (OpenSpec.ofChange writeWritesSpec)) writeWritesCard

/-- THE TIED CARD OF 'glyphcutterlaw07.WriteBack'. -/
def writeBackCard : Claim7 := { stood := { row := writeBackRow, standIns := [], harness := (true, "5fd2c91a5c1c0c5d071169fdb8eb494f39f2c4bd4ef0d3d69eaf42987e7c6f96"), looks := false }, kinds := [], alts := [], laidByText := true, laidKinds := [.data, .data, .data, .data], laidTests := true, laidLooks := .later }
def WriteBackCardSaid : Prop := Claim7.holds Tryz.pinned (.plain (OpenSpec.ofChange writeBackSpec)) writeBackCard

/-- THE TIED CARD OF 'glyphcutterlaw07.WriteBent'. -/
def writeBentCard : Claim7 := { stood := { row := writeBentRow, standIns := [], harness := (true, "5fd2c91a5c1c0c5d071169fdb8eb494f39f2c4bd4ef0d3d69eaf42987e7c6f96"), looks := false }, kinds := [], alts := [], laidByText := true, laidKinds := [.data, .data, .data, .data], laidTests := true, laidLooks := .later }
def WriteBentCardSaid : Prop := Claim7.holds Tryz.pinned (.plain (OpenSpec.ofChange writeBentSpec)) writeBentCard

/-- THE TIED CARD OF 'glyphcutterlaw07.WriteApart'. -/
def writeApartCard : Claim7 := { stood := { row := writeApartRow, standIns := [], harness := (true, "5fd2c91a5c1c0c5d071169fdb8eb494f39f2c4bd4ef0d3d69eaf42987e7c6f96"), looks := false }, kinds := [], alts := [], laidByText := true, laidKinds := [.data, .data, .data, .data], laidTests := true, laidLooks := .later }
def WriteApartCardSaid : Prop := Claim7.holds Tryz.pinned (.plain (OpenSpec.ofChange writeApartSpec)) writeApartCard

/-- THE TIED CARD OF 'glyphcutterlaw07.WriteKeeps'. -/
def writeKeepsCard : Claim7 := { stood := { row := writeKeepsRow, standIns := [], harness := (true, "5fd2c91a5c1c0c5d071169fdb8eb494f39f2c4bd4ef0d3d69eaf42987e7c6f96"), looks := false }, kinds := [], alts := [], laidByText := true, laidKinds := [.data, .data, .data, .data], laidTests := true, laidLooks := .later }
def WriteKeepsCardSaid : Prop := Claim7.holds Tryz.pinned (.plain (OpenSpec.ofChange writeKeepsSpec)) writeKeepsCard

/-- THE SECOND FORM's CARD OF 'glyphcutterlaw07.WriteWrites'. -/
def writeWritesUptoCard : Claim7 := { stood := { row := writeWritesUptoRow, standIns := [], harness := (true, "5fd2c91a5c1c0c5d071169fdb8eb494f39f2c4bd4ef0d3d69eaf42987e7c6f96"), looks := false }, kinds := [], alts := [], laidByText := true, laidKinds := [.data, .data, .data, .data], laidTests := true, laidLooks := .later }
def WriteWritesUptoCardSaid : Prop := Claim7.holds Tryz.pinned (.plain (OpenSpec.upto writeWritesSpec)) writeWritesUptoCard

/-- THE SECOND FORM's CARD OF 'glyphcutterlaw07.WriteBack'. -/
def writeBackUptoCard : Claim7 := { stood := { row := writeBackUptoRow, standIns := [], harness := (true, "5fd2c91a5c1c0c5d071169fdb8eb494f39f2c4bd4ef0d3d69eaf42987e7c6f96"), looks := false }, kinds := [], alts := [], laidByText := true, laidKinds := [.data, .data, .data, .data], laidTests := true, laidLooks := .later }
def WriteBackUptoCardSaid : Prop := Claim7.holds Tryz.pinned (.plain (OpenSpec.upto writeBackSpec)) writeBackUptoCard

/-- THE SECOND FORM's CARD OF 'glyphcutterlaw07.WriteBent'. -/
def writeBentUptoCard : Claim7 := { stood := { row := writeBentUptoRow, standIns := [], harness := (true, "5fd2c91a5c1c0c5d071169fdb8eb494f39f2c4bd4ef0d3d69eaf42987e7c6f96"), looks := false }, kinds := [], alts := [], laidByText := true, laidKinds := [.data, .data, .data, .data], laidTests := true, laidLooks := .later }
def WriteBentUptoCardSaid : Prop := Claim7.holds Tryz.pinned (.plain (OpenSpec.upto writeBentSpec)) writeBentUptoCard

/-- THE SECOND FORM's CARD OF 'glyphcutterlaw07.WriteApart'. -/
def writeApartUptoCard : Claim7 := { stood := { row := writeApartUptoRow, standIns := [], harness := (true, "5fd2c91a5c1c0c5d071169fdb8eb494f39f2c4bd4ef0d3d69eaf42987e7c6f96"), looks := false }, kinds := [], alts := [], laidByText := true, laidKinds := [.data, .data, .data, .data], laidTests := true, laidLooks := .later }
def WriteApartUptoCardSaid : Prop := Claim7.holds Tryz.pinned (.plain (OpenSpec.upto writeApartSpec)) writeApartUptoCard

/-- THE SECOND FORM's CARD OF 'glyphcutterlaw07.WriteKeeps'. -/
def writeKeepsUptoCard : Claim7 := { stood := { row := writeKeepsUptoRow, standIns := [], harness := (true, "5fd2c91a5c1c0c5d071169fdb8eb494f39f2c4bd4ef0d3d69eaf42987e7c6f96"), looks := false }, kinds := [], alts := [], laidByText := true, laidKinds := [.data, .data, .data, .data], laidTests := true, laidLooks := .later }
def WriteKeepsUptoCardSaid : Prop := Claim7.holds Tryz.pinned (.plain (OpenSpec.upto writeKeepsSpec)) writeKeepsUptoCard
end Rows
end Go.Proofs.YtdcnfflleaplnaaGreatDoor
