/-
  NARROWER THAN 'FOR EVERY INPUT', by the rows' own cells (each row's printed sentence says how): NfaBuilds: laid · NfaSounds: laid · NfaKeeps: laid · SimLongest: laid.
  DERIVED. THE GIVEN ROWS OF THIS SEAT. 4 by the template 'for every input the law returns true; each argument reads behind the call as it read before'; 0 by the template 'total and deterministic' (their statements: YtioahgklplbinaaGreatDoorTotals.lean).
  GIVEN WITH THE SEED: the statements are not yours to turn. If you find one false, say at which input.
  Laid BY PROGRAM, IN A SANDBOX (cutbox-rows.mjs): the forced cells as the released guide's own fill.sh prints them over the translation 861f8638e40574fb… (all of the seat's roots in one cut). By AI agents, Wed Nov 11 2026. No macro, syntax, notation, axiom, sorry.
-/
import Derived.Test.YtioahgklplbinaaGreatDoorChecked
import GoSem.Claim
import GoSem.ClaimJoined
import GoSem.ClaimMapViews
import Derived.JoinedTies
import Derived.KernelRfl
namespace Go.Proofs.YtioahgklplbinaaGreatDoor
/- THE CELL 'sum', in the pinned program and in every row, IS THE sha256 OF THE DUMP (.gsa) THAT YtioahgklplbinaaGreatDoorProg.lean LOADS. Nothing in Lean hashes anything: it is a label: what it is worth is what the hold of that sum in a sandbox is worth. -/
noncomputable def Tryz.pinned : Pinned := { name := "ytioahgklplbinaagreatdoor", sum := "861f8638e40574fb7395c3d4c964d500df9e7b3c212d3e43a6a387d2afcd9b2b", checked := Tryz.checked }
namespace Rows
def none {H : Type} : Left H := { results := [], args := [] }

/- WHAT THE LISTED PACKAGE-LEVEL VARIABLES READ AS WHEN THE CALL BEGINS. Each datum BY PROGRAM (the guide's laid-datum.mjs) off the statement by which the dump's own 'gosem.cut.vars' lays the variable. In a bare row this is a premise. The card (YtioahgklplbinaaGreatDoorCards.lean) ties it to the program's text. -/
def laid_glyphcutter_set_areas {H : Type} : DataW H := .agg [.agg [.lit (.int .i64 0), .lit (.int .i64 55295)], .agg [.lit (.int .i64 57344), .lit (.int .i64 1114111)]]

/-- 'glyphcutterlaw08.NfaBuilds': WHATEVER THE INPUT: true; the input reads as it did. -/
def nfaBuildsSpec : ChangeSpec := { name := "nfaBuilds", fn := fun _ => fun
  | [d1, d2] => { results := [.lit (.bool true)], args := [d1, d2] }
  | _ => none }
def nfaBuildsRow : OpenClaim := { program := "ytioahgklplbinaagreatdoor", sum := "861f8638e40574fb7395c3d4c964d500df9e7b3c212d3e43a6a387d2afcd9b2b", func := "glyphcutter/glyphcutterlaw08.NfaBuilds", spec := "nfaBuilds", unfollowed := true, recurses := true, named := ["glyphcutter/set.areas"], plainKeys := false, apart := false, laid := [("glyphcutter/set.areas", laid_glyphcutter_set_areas)] }
def NfaBuildsSaid : Prop := nfaBuildsRow.holds Tryz.pinned (OpenSpec.ofChange nfaBuildsSpec)

/-- ITS FALSE NEIGHBOUR: 'it returns false'. Refute it at one input. -/
def nfaBuildsWrong : ChangeSpec := { name := "nfaBuilds", fn := fun _ => fun
  | [d1, d2] => { results := [.lit (.bool false)], args := [d1, d2] }
  | _ => none }
def NfaBuildsWrongFalsely : Prop := nfaBuildsRow.holds Tryz.pinned (OpenSpec.ofChange nfaBuildsWrong)

/-- 'glyphcutterlaw08.NfaSounds': WHATEVER THE INPUT: true; the input reads as it did. -/
def nfaSoundsSpec : ChangeSpec := { name := "nfaSounds", fn := fun _ => fun
  | [d] => { results := [.lit (.bool true)], args := [d] }
  | _ => none }
def nfaSoundsRow : OpenClaim := { program := "ytioahgklplbinaagreatdoor", sum := "861f8638e40574fb7395c3d4c964d500df9e7b3c212d3e43a6a387d2afcd9b2b", func := "glyphcutter/glyphcutterlaw08.NfaSounds", spec := "nfaSounds", unfollowed := true, recurses := true, named := ["glyphcutter/set.areas"], plainKeys := false, apart := false, laid := [("glyphcutter/set.areas", laid_glyphcutter_set_areas)] }
def NfaSoundsSaid : Prop := nfaSoundsRow.holds Tryz.pinned (OpenSpec.ofChange nfaSoundsSpec)

/-- ITS FALSE NEIGHBOUR: 'it returns false'. Refute it at one input. -/
def nfaSoundsWrong : ChangeSpec := { name := "nfaSounds", fn := fun _ => fun
  | [d] => { results := [.lit (.bool false)], args := [d] }
  | _ => none }
def NfaSoundsWrongFalsely : Prop := nfaSoundsRow.holds Tryz.pinned (OpenSpec.ofChange nfaSoundsWrong)

/-- 'glyphcutterlaw08.NfaKeeps': WHATEVER THE INPUT: true; the input reads as it did. -/
def nfaKeepsSpec : ChangeSpec := { name := "nfaKeeps", fn := fun _ => fun
  | [d] => { results := [.lit (.bool true)], args := [d] }
  | _ => none }
def nfaKeepsRow : OpenClaim := { program := "ytioahgklplbinaagreatdoor", sum := "861f8638e40574fb7395c3d4c964d500df9e7b3c212d3e43a6a387d2afcd9b2b", func := "glyphcutter/glyphcutterlaw08.NfaKeeps", spec := "nfaKeeps", unfollowed := true, recurses := true, named := ["glyphcutter/set.areas"], plainKeys := false, apart := false, laid := [("glyphcutter/set.areas", laid_glyphcutter_set_areas)] }
def NfaKeepsSaid : Prop := nfaKeepsRow.holds Tryz.pinned (OpenSpec.ofChange nfaKeepsSpec)

/-- ITS FALSE NEIGHBOUR: 'it returns false'. Refute it at one input. -/
def nfaKeepsWrong : ChangeSpec := { name := "nfaKeeps", fn := fun _ => fun
  | [d] => { results := [.lit (.bool false)], args := [d] }
  | _ => none }
def NfaKeepsWrongFalsely : Prop := nfaKeepsRow.holds Tryz.pinned (OpenSpec.ofChange nfaKeepsWrong)

/-- 'glyphcutterlaw09.SimLongest': WHATEVER THE INPUT: true; the input reads as it did. -/
def simLongestSpec : ChangeSpec := { name := "simLongest", fn := fun _ => fun
  | [d1, d2] => { results := [.lit (.bool true)], args := [d1, d2] }
  | _ => none }
def simLongestRow : OpenClaim := { program := "ytioahgklplbinaagreatdoor", sum := "861f8638e40574fb7395c3d4c964d500df9e7b3c212d3e43a6a387d2afcd9b2b", func := "glyphcutter/glyphcutterlaw09.SimLongest", spec := "simLongest", unfollowed := true, recurses := true, named := ["glyphcutter/set.areas"], plainKeys := false, apart := false, laid := [("glyphcutter/set.areas", laid_glyphcutter_set_areas)] }
def SimLongestSaid : Prop := simLongestRow.holds Tryz.pinned (OpenSpec.ofChange simLongestSpec)

/-- ITS FALSE NEIGHBOUR: 'it returns false'. Refute it at one input. -/
def simLongestWrong : ChangeSpec := { name := "simLongest", fn := fun _ => fun
  | [d1, d2] => { results := [.lit (.bool false)], args := [d1, d2] }
  | _ => none }
def SimLongestWrongFalsely : Prop := simLongestRow.holds Tryz.pinned (OpenSpec.ofChange simLongestWrong)

/- THE SECOND FORM. 'bulk': how many values and letters a reading holds, each counted each time it is reached (what is shared counts as often as it is met; a slice's spare places count too). A statement '..UptoSaid' is the law's where the arguments, and the package variables that the reading takes, are together of bulk at most 1048576: NARROWER than '..Said'. Prove '..Said' where nothing that the law and all that it calls make is longer than what came in: it says more and counts as full. Else prove '..UptoSaid'. A law counts once. -/
mutual
def uptoBulk {H : Type} : DataW H → Nat
  | .lit (.string bytes) => bytes.length + 1
  | .lit _ => 1
  | .nil => 1
  | .ptr d => uptoBulk d + 1
  | .slice elems spare => uptoBulkAll elems + uptoBulkAll spare + 1
  | .agg parts => uptoBulkAll parts + 1
  | .iface _ d => uptoBulk d + 1
  | .map entries => uptoBulkEntries entries + 1
  | .held _ => 1
def uptoBulkAll {H : Type} : List (DataW H) → Nat
  | [] => 0
  | d :: r => uptoBulk d + uptoBulkAll r
def uptoBulkEntries {H : Type} : List (Lit × DataW H) → Nat
  | [] => 0
  | x :: r => uptoBulkEntry x + uptoBulkEntries r
def uptoBulkEntry {H : Type} : Lit × DataW H → Nat
  | (.string bytes, d) => bytes.length + uptoBulk d + 1
  | (_, d) => uptoBulk d + 1
 end
def uptoSmall : (H : Type) → List (DataW H) → Bool := fun _ ds => decide (uptoBulkAll ds ≤ 1048576)
def OpenSpec.upto (s : _root_.Go.ChangeSpec) : _root_.Go.OpenSpec := { _root_.Go.OpenSpec.ofChange s with cond := some uptoSmall }

/-- 'glyphcutterlaw08.NfaBuilds', WHERE WHAT IT READS IS OF BULK AT MOST 1048576: true; the input reads as it did. -/
def nfaBuildsUptoRow : OpenClaim := { program := "ytioahgklplbinaagreatdoor", sum := "861f8638e40574fb7395c3d4c964d500df9e7b3c212d3e43a6a387d2afcd9b2b", func := "glyphcutter/glyphcutterlaw08.NfaBuilds", spec := "nfaBuilds", unfollowed := true, recurses := true, named := ["glyphcutter/set.areas"], plainKeys := false, apart := false, laid := [("glyphcutter/set.areas", laid_glyphcutter_set_areas)], narrowed := true }
def NfaBuildsUptoSaid : Prop := nfaBuildsUptoRow.holds Tryz.pinned (OpenSpec.upto nfaBuildsSpec)

/-- 'glyphcutterlaw08.NfaSounds', WHERE WHAT IT READS IS OF BULK AT MOST 1048576: true; the input reads as it did. -/
def nfaSoundsUptoRow : OpenClaim := { program := "ytioahgklplbinaagreatdoor", sum := "861f8638e40574fb7395c3d4c964d500df9e7b3c212d3e43a6a387d2afcd9b2b", func := "glyphcutter/glyphcutterlaw08.NfaSounds", spec := "nfaSounds", unfollowed := true, recurses := true, named := ["glyphcutter/set.areas"], plainKeys := false, apart := false, laid := [("glyphcutter/set.areas", laid_glyphcutter_set_areas)], narrowed := true }
def NfaSoundsUptoSaid : Prop := nfaSoundsUptoRow.holds Tryz.pinned (OpenSpec.upto nfaSoundsSpec)

/-- 'glyphcutterlaw08.NfaKeeps', WHERE WHAT IT READS IS OF BULK AT MOST 1048576: true; the input reads as it did. -/
def nfaKeepsUptoRow : OpenClaim := { program := "ytioahgklplbinaagreatdoor", sum := "861f8638e40574fb7395c3d4c964d500df9e7b3c212d3e43a6a387d2afcd9b2b", func := "glyphcutter/glyphcutterlaw08.NfaKeeps", spec := "nfaKeeps", unfollowed := true, recurses := true, named := ["glyphcutter/set.areas"], plainKeys := false, apart := false, laid := [("glyphcutter/set.areas", laid_glyphcutter_set_areas)], narrowed := true }
def NfaKeepsUptoSaid : Prop := nfaKeepsUptoRow.holds Tryz.pinned (OpenSpec.upto nfaKeepsSpec)

/-- 'glyphcutterlaw09.SimLongest', WHERE WHAT IT READS IS OF BULK AT MOST 1048576: true; the input reads as it did. -/
def simLongestUptoRow : OpenClaim := { program := "ytioahgklplbinaagreatdoor", sum := "861f8638e40574fb7395c3d4c964d500df9e7b3c212d3e43a6a387d2afcd9b2b", func := "glyphcutter/glyphcutterlaw09.SimLongest", spec := "simLongest", unfollowed := true, recurses := true, named := ["glyphcutter/set.areas"], plainKeys := false, apart := false, laid := [("glyphcutter/set.areas", laid_glyphcutter_set_areas)], narrowed := true }
def SimLongestUptoSaid : Prop := simLongestUptoRow.holds Tryz.pinned (OpenSpec.upto simLongestSpec)

end Rows
end Go.Proofs.YtioahgklplbinaaGreatDoor
