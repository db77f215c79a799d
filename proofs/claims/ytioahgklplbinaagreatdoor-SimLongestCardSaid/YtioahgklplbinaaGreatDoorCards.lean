/-
  DERIVED. GIVEN WITH THE SEED: THE CARDS: each row of YtioahgklplbinaaGreatDoorRows.lean that lists a variable, with what it lists TIED to the program's text (the seventh form; the later family's looks); each row that meets fmt, with fmt's text TOLD by the authors' own Lean function (tested against real Go, not proved from fmt's source: count such statements apart). THE CARD IS WHAT COUNTS. Prove the row's statement (the work); the ties are given (YtioahgklplbinaaGreatDoorTie.lean); close each card by the builder's one call (the guide's Derived/Test/ToyasCard.lean, 'card_holds'). Laid BY PROGRAM, IN A SANDBOX (cutbox-door.mjs). By AI agents, Wed Nov 11 2026. No macro, syntax, notation, axiom, sorry.
-/
import Derived.Test.YtioahgklplbinaaGreatDoorRows
import GoSem.ClaimSeven
namespace Go.Proofs.YtioahgklplbinaaGreatDoor
namespace Rows

/-- THE TIED CARD OF 'glyphcutterlaw08.NfaBuilds'. -/
def nfaBuildsCard : Claim7 := { stood := { row := nfaBuildsRow, standIns := [], harness := (true, "2eb499244ac5995bf899e1bd1a83bd203f6d37137279bc0164892ac6349999e3"), looks := false }, kinds := [], alts := [], laidByText := true, laidKinds := [.data], laidTests := true, laidLooks := .later }
def NfaBuildsCardSaid : Prop := Claim7.holds Tryz.pinned (.plain (OpenSpec.ofChange nfaBuildsSpec)) nfaBuildsCard

/-- THE TIED CARD OF 'glyphcutterlaw08.NfaSounds'. -/
def nfaSoundsCard : Claim7 := { stood := { row := nfaSoundsRow, standIns := [], harness := (true, "2eb499244ac5995bf899e1bd1a83bd203f6d37137279bc0164892ac6349999e3"), looks := false }, kinds := [], alts := [], laidByText := true, laidKinds := [.data], laidTests := true, laidLooks := .later }
def NfaSoundsCardSaid : Prop := Claim7.holds Tryz.pinned (.plain (OpenSpec.ofChange nfaSoundsSpec)) nfaSoundsCard

/-- THE TIED CARD OF 'glyphcutterlaw08.NfaKeeps'. -/
def nfaKeepsCard : Claim7 := { stood := { row := nfaKeepsRow, standIns := [], harness := (true, "2eb499244ac5995bf899e1bd1a83bd203f6d37137279bc0164892ac6349999e3"), looks := false }, kinds := [], alts := [], laidByText := true, laidKinds := [.data], laidTests := true, laidLooks := .later }
def NfaKeepsCardSaid : Prop := Claim7.holds Tryz.pinned (.plain (OpenSpec.ofChange nfaKeepsSpec)) nfaKeepsCard

/-- THE TIED CARD OF 'glyphcutterlaw09.SimLongest'. -/
def simLongestCard : Claim7 := { stood := { row := simLongestRow, standIns := [], harness := (true, "2eb499244ac5995bf899e1bd1a83bd203f6d37137279bc0164892ac6349999e3"), looks := false }, kinds := [], alts := [], laidByText := true, laidKinds := [.data], laidTests := true, laidLooks := .later }
def SimLongestCardSaid : Prop := Claim7.holds Tryz.pinned (.plain (OpenSpec.ofChange simLongestSpec)) simLongestCard

/-- THE SECOND FORM's CARD OF 'glyphcutterlaw08.NfaBuilds'. -/
def nfaBuildsUptoCard : Claim7 := { stood := { row := nfaBuildsUptoRow, standIns := [], harness := (true, "2eb499244ac5995bf899e1bd1a83bd203f6d37137279bc0164892ac6349999e3"), looks := false }, kinds := [], alts := [], laidByText := true, laidKinds := [.data], laidTests := true, laidLooks := .later }
def NfaBuildsUptoCardSaid : Prop := Claim7.holds Tryz.pinned (.plain (OpenSpec.upto nfaBuildsSpec)) nfaBuildsUptoCard

/-- THE SECOND FORM's CARD OF 'glyphcutterlaw08.NfaSounds'. -/
def nfaSoundsUptoCard : Claim7 := { stood := { row := nfaSoundsUptoRow, standIns := [], harness := (true, "2eb499244ac5995bf899e1bd1a83bd203f6d37137279bc0164892ac6349999e3"), looks := false }, kinds := [], alts := [], laidByText := true, laidKinds := [.data], laidTests := true, laidLooks := .later }
def NfaSoundsUptoCardSaid : Prop := Claim7.holds Tryz.pinned (.plain (OpenSpec.upto nfaSoundsSpec)) nfaSoundsUptoCard

/-- THE SECOND FORM's CARD OF 'glyphcutterlaw08.NfaKeeps'. -/
def nfaKeepsUptoCard : Claim7 := { stood := { row := nfaKeepsUptoRow, standIns := [], harness := (true, "2eb499244ac5995bf899e1bd1a83bd203f6d37137279bc0164892ac6349999e3"), looks := false }, kinds := [], alts := [], laidByText := true, laidKinds := [.data], laidTests := true, laidLooks := .later }
def NfaKeepsUptoCardSaid : Prop := Claim7.holds Tryz.pinned (.plain (OpenSpec.upto nfaKeepsSpec)) nfaKeepsUptoCard

/-- THE SECOND FORM's CARD OF 'glyphcutterlaw09.SimLongest'. -/
def simLongestUptoCard : Claim7 := { stood := { row := simLongestUptoRow, standIns := [], harness := (true, "2eb499244ac5995bf899e1bd1a83bd203f6d37137279bc0164892ac6349999e3"), looks := false }, kinds := [], alts := [], laidByText := true, laidKinds := [.data], laidTests := true, laidLooks := .later }
def SimLongestUptoCardSaid : Prop := Claim7.holds Tryz.pinned (.plain (OpenSpec.upto simLongestSpec)) simLongestUptoCard
end Rows
end Go.Proofs.YtioahgklplbinaaGreatDoor
