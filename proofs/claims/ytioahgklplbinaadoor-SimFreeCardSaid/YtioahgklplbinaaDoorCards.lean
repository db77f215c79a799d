/-
  DERIVED. GIVEN WITH THE SEED: THE CARDS: each row of YtioahgklplbinaaDoorRows.lean that lists a variable, with what it lists TIED to the program's text (the seventh form; the later family's looks); each row that meets fmt, with fmt's text TOLD by the authors' own Lean function (tested against real Go, not proved from fmt's source: count such statements apart). THE CARD IS WHAT COUNTS. Prove the row's statement (the work); the ties are given (YtioahgklplbinaaDoorTie.lean); close each card by the builder's one call (the guide's Derived/Test/ToyasCard.lean, 'card_holds'). Laid BY PROGRAM, IN A SANDBOX (cutbox-door.mjs). By AI agents, Wed Nov 11 2026. No macro, syntax, notation, axiom, sorry.
-/
import Derived.Test.YtioahgklplbinaaDoorRows
import GoSem.ClaimSeven
namespace Go.Proofs.YtioahgklplbinaaDoor
namespace Rows

/-- THE TIED CARD OF 'glyphcutterlaw09.SimStates'. -/
def simStatesCard : Claim7 := { stood := { row := simStatesRow, standIns := [], harness := (true, "9cf9e9ad7c5ee1bb1d6c7ed2ef3683562c24763a2fff7942c135ae84c6e98539"), looks := false }, kinds := [], alts := [], laidByText := true, laidKinds := [.data], laidTests := true, laidLooks := .later }
def SimStatesCardSaid : Prop := Claim7.holds Tryd.pinned (.plain (OpenSpec.ofChange simStatesSpec)) simStatesCard

/-- THE TIED CARD OF 'glyphcutterlaw09.SimFree'. -/
def simFreeCard : Claim7 := { stood := { row := simFreeRow, standIns := [], harness := (true, "9cf9e9ad7c5ee1bb1d6c7ed2ef3683562c24763a2fff7942c135ae84c6e98539"), looks := false }, kinds := [], alts := [], laidByText := true, laidKinds := [.data], laidTests := true, laidLooks := .later }
def SimFreeCardSaid : Prop := Claim7.holds Tryd.pinned (.plain (OpenSpec.ofChange simFreeSpec)) simFreeCard

/-- THE TIED CARD OF 'glyphcutterlaw09.SimGoes'. -/
def simGoesCard : Claim7 := { stood := { row := simGoesRow, standIns := [], harness := (true, "9cf9e9ad7c5ee1bb1d6c7ed2ef3683562c24763a2fff7942c135ae84c6e98539"), looks := false }, kinds := [], alts := [], laidByText := true, laidKinds := [.data], laidTests := true, laidLooks := .later }
def SimGoesCardSaid : Prop := Claim7.holds Tryd.pinned (.plain (OpenSpec.ofChange simGoesSpec)) simGoesCard

/-- THE TIED CARD OF 'glyphcutterlaw09.SimBad'. -/
def simBadCard : Claim7 := { stood := { row := simBadRow, standIns := [], harness := (true, "9cf9e9ad7c5ee1bb1d6c7ed2ef3683562c24763a2fff7942c135ae84c6e98539"), looks := false }, kinds := [], alts := [], laidByText := true, laidKinds := [.data], laidTests := true, laidLooks := .later }
def SimBadCardSaid : Prop := Claim7.holds Tryd.pinned (.plain (OpenSpec.ofChange simBadSpec)) simBadCard

/-- THE TIED CARD OF 'glyphcutterlaw09.SimFronts'. -/
def simFrontsCard : Claim7 := { stood := { row := simFrontsRow, standIns := [], harness := (true, "9cf9e9ad7c5ee1bb1d6c7ed2ef3683562c24763a2fff7942c135ae84c6e98539"), looks := false }, kinds := [], alts := [], laidByText := true, laidKinds := [.data], laidTests := true, laidLooks := .later }
def SimFrontsCardSaid : Prop := Claim7.holds Tryd.pinned (.plain (OpenSpec.ofChange simFrontsSpec)) simFrontsCard

/-- THE SECOND FORM's CARD OF 'glyphcutterlaw09.SimStates'. -/
def simStatesUptoCard : Claim7 := { stood := { row := simStatesUptoRow, standIns := [], harness := (true, "9cf9e9ad7c5ee1bb1d6c7ed2ef3683562c24763a2fff7942c135ae84c6e98539"), looks := false }, kinds := [], alts := [], laidByText := true, laidKinds := [.data], laidTests := true, laidLooks := .later }
def SimStatesUptoCardSaid : Prop := Claim7.holds Tryd.pinned (.plain (OpenSpec.upto simStatesSpec)) simStatesUptoCard

/-- THE SECOND FORM's CARD OF 'glyphcutterlaw09.SimFree'. -/
def simFreeUptoCard : Claim7 := { stood := { row := simFreeUptoRow, standIns := [], harness := (true, "9cf9e9ad7c5ee1bb1d6c7ed2ef3683562c24763a2fff7942c135ae84c6e98539"), looks := false }, kinds := [], alts := [], laidByText := true, laidKinds := [.data], laidTests := true, laidLooks := .later }
def SimFreeUptoCardSaid : Prop := Claim7.holds Tryd.pinned (.plain (OpenSpec.upto simFreeSpec)) simFreeUptoCard

/-- THE SECOND FORM's CARD OF 'glyphcutterlaw09.SimGoes'. -/
def simGoesUptoCard : Claim7 := { stood := { row := simGoesUptoRow, standIns := [], harness := (true, "9cf9e9ad7c5ee1bb1d6c7ed2ef3683562c24763a2fff7942c135ae84c6e98539"), looks := false }, kinds := [], alts := [], laidByText := true, laidKinds := [.data], laidTests := true, laidLooks := .later }
def SimGoesUptoCardSaid : Prop := Claim7.holds Tryd.pinned (.plain (OpenSpec.upto simGoesSpec)) simGoesUptoCard

/-- THE SECOND FORM's CARD OF 'glyphcutterlaw09.SimBad'. -/
def simBadUptoCard : Claim7 := { stood := { row := simBadUptoRow, standIns := [], harness := (true, "9cf9e9ad7c5ee1bb1d6c7ed2ef3683562c24763a2fff7942c135ae84c6e98539"), looks := false }, kinds := [], alts := [], laidByText := true, laidKinds := [.data], laidTests := true, laidLooks := .later }
def SimBadUptoCardSaid : Prop := Claim7.holds Tryd.pinned (.plain (OpenSpec.upto simBadSpec)) simBadUptoCard

/-- THE SECOND FORM's CARD OF 'glyphcutterlaw09.SimFronts'. -/
def simFrontsUptoCard : Claim7 := { stood := { row := simFrontsUptoRow, standIns := [], harness := (true, "9cf9e9ad7c5ee1bb1d6c7ed2ef3683562c24763a2fff7942c135ae84c6e98539"), looks := false }, kinds := [], alts := [], laidByText := true, laidKinds := [.data], laidTests := true, laidLooks := .later }
def SimFrontsUptoCardSaid : Prop := Claim7.holds Tryd.pinned (.plain (OpenSpec.upto simFrontsSpec)) simFrontsUptoCard
end Rows
end Go.Proofs.YtioahgklplbinaaDoor
