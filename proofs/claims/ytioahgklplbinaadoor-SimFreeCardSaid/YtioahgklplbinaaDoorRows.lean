/-
  NARROWER THAN 'FOR EVERY INPUT', by the rows' own cells (each row's printed sentence says how): SimStates: laid · SimFree: laid · SimGoes: laid · SimBad: laid · SimFronts: laid.
  DERIVED. THE GIVEN ROWS OF THIS SEAT. 5 by the template 'for every input the law returns true; each argument reads behind the call as it read before'; 0 by the template 'total and deterministic' (their statements: YtioahgklplbinaaDoorTotals.lean).
  GIVEN WITH THE SEED: the statements are not yours to turn. If you find one false, say at which input.
  Laid BY PROGRAM, IN A SANDBOX (cutbox-rows.mjs): the forced cells as the released guide's own fill.sh prints them over the translation 8f0361c5c586b48e… (all of the seat's roots in one cut). By AI agents, Wed Nov 11 2026. No macro, syntax, notation, axiom, sorry.
-/
import Derived.Test.YtioahgklplbinaaDoorChecked
import GoSem.Claim
import GoSem.ClaimJoined
import GoSem.ClaimMapViews
import Derived.JoinedTies
import Derived.KernelRfl
namespace Go.Proofs.YtioahgklplbinaaDoor
/- THE CELL 'sum', in the pinned program and in every row, IS THE sha256 OF THE DUMP (.gsa) THAT YtioahgklplbinaaDoorProg.lean LOADS. Nothing in Lean hashes anything: it is a label: what it is worth is what the hold of that sum in a sandbox is worth. -/
noncomputable def Tryd.pinned : Pinned := { name := "ytioahgklplbinaadoor", sum := "8f0361c5c586b48ef6577fc35803adc5453174d234e541e45424411126bf4737", checked := Tryd.checked }
namespace Rows
def none {H : Type} : Left H := { results := [], args := [] }

/- WHAT THE LISTED PACKAGE-LEVEL VARIABLES READ AS WHEN THE CALL BEGINS. Each datum BY PROGRAM (the guide's laid-datum.mjs) off the statement by which the dump's own 'gosem.cut.vars' lays the variable. In a bare row this is a premise. The card (YtioahgklplbinaaDoorCards.lean) ties it to the program's text. -/
def laid_glyphcutter_set_areas {H : Type} : DataW H := .agg [.agg [.lit (.int .i64 0), .lit (.int .i64 55295)], .agg [.lit (.int .i64 57344), .lit (.int .i64 1114111)]]

/-- 'glyphcutterlaw09.SimStates': WHATEVER THE INPUT: true; the input reads as it did. -/
def simStatesSpec : ChangeSpec := { name := "simStates", fn := fun _ => fun
  | [d1, d2, d3, d4, d5, d6] => { results := [.lit (.bool true)], args := [d1, d2, d3, d4, d5, d6] }
  | _ => none }
def simStatesRow : OpenClaim := { program := "ytioahgklplbinaadoor", sum := "8f0361c5c586b48ef6577fc35803adc5453174d234e541e45424411126bf4737", func := "glyphcutter/glyphcutterlaw09.SimStates", spec := "simStates", unfollowed := true, recurses := true, named := ["glyphcutter/set.areas"], apart := false, laid := [("glyphcutter/set.areas", laid_glyphcutter_set_areas)] }
def SimStatesSaid : Prop := simStatesRow.holds Tryd.pinned (OpenSpec.ofChange simStatesSpec)

/-- ITS FALSE NEIGHBOUR: 'it returns false'. Refute it at one input. -/
def simStatesWrong : ChangeSpec := { name := "simStates", fn := fun _ => fun
  | [d1, d2, d3, d4, d5, d6] => { results := [.lit (.bool false)], args := [d1, d2, d3, d4, d5, d6] }
  | _ => none }
def SimStatesWrongFalsely : Prop := simStatesRow.holds Tryd.pinned (OpenSpec.ofChange simStatesWrong)

/-- 'glyphcutterlaw09.SimFree': WHATEVER THE INPUT: true; the input reads as it did. -/
def simFreeSpec : ChangeSpec := { name := "simFree", fn := fun _ => fun
  | [d1, d2, d3] => { results := [.lit (.bool true)], args := [d1, d2, d3] }
  | _ => none }
def simFreeRow : OpenClaim := { program := "ytioahgklplbinaadoor", sum := "8f0361c5c586b48ef6577fc35803adc5453174d234e541e45424411126bf4737", func := "glyphcutter/glyphcutterlaw09.SimFree", spec := "simFree", unfollowed := true, recurses := true, named := ["glyphcutter/set.areas"], apart := false, laid := [("glyphcutter/set.areas", laid_glyphcutter_set_areas)] }
def SimFreeSaid : Prop := simFreeRow.holds Tryd.pinned (OpenSpec.ofChange simFreeSpec)

/-- ITS FALSE NEIGHBOUR: 'it returns false'. Refute it at one input. -/
def simFreeWrong : ChangeSpec := { name := "simFree", fn := fun _ => fun
  | [d1, d2, d3] => { results := [.lit (.bool false)], args := [d1, d2, d3] }
  | _ => none }
def SimFreeWrongFalsely : Prop := simFreeRow.holds Tryd.pinned (OpenSpec.ofChange simFreeWrong)

/-- 'glyphcutterlaw09.SimGoes': WHATEVER THE INPUT: true; the input reads as it did. -/
def simGoesSpec : ChangeSpec := { name := "simGoes", fn := fun _ => fun
  | [d1, d2, d3, d4, d5] => { results := [.lit (.bool true)], args := [d1, d2, d3, d4, d5] }
  | _ => none }
def simGoesRow : OpenClaim := { program := "ytioahgklplbinaadoor", sum := "8f0361c5c586b48ef6577fc35803adc5453174d234e541e45424411126bf4737", func := "glyphcutter/glyphcutterlaw09.SimGoes", spec := "simGoes", unfollowed := true, recurses := true, named := ["glyphcutter/set.areas"], apart := false, laid := [("glyphcutter/set.areas", laid_glyphcutter_set_areas)] }
def SimGoesSaid : Prop := simGoesRow.holds Tryd.pinned (OpenSpec.ofChange simGoesSpec)

/-- ITS FALSE NEIGHBOUR: 'it returns false'. Refute it at one input. -/
def simGoesWrong : ChangeSpec := { name := "simGoes", fn := fun _ => fun
  | [d1, d2, d3, d4, d5] => { results := [.lit (.bool false)], args := [d1, d2, d3, d4, d5] }
  | _ => none }
def SimGoesWrongFalsely : Prop := simGoesRow.holds Tryd.pinned (OpenSpec.ofChange simGoesWrong)

/-- 'glyphcutterlaw09.SimBad': WHATEVER THE INPUT: true; the input reads as it did. -/
def simBadSpec : ChangeSpec := { name := "simBad", fn := fun _ => fun
  | [d1, d2, d3] => { results := [.lit (.bool true)], args := [d1, d2, d3] }
  | _ => none }
def simBadRow : OpenClaim := { program := "ytioahgklplbinaadoor", sum := "8f0361c5c586b48ef6577fc35803adc5453174d234e541e45424411126bf4737", func := "glyphcutter/glyphcutterlaw09.SimBad", spec := "simBad", unfollowed := true, recurses := true, named := ["glyphcutter/set.areas"], apart := false, laid := [("glyphcutter/set.areas", laid_glyphcutter_set_areas)] }
def SimBadSaid : Prop := simBadRow.holds Tryd.pinned (OpenSpec.ofChange simBadSpec)

/-- ITS FALSE NEIGHBOUR: 'it returns false'. Refute it at one input. -/
def simBadWrong : ChangeSpec := { name := "simBad", fn := fun _ => fun
  | [d1, d2, d3] => { results := [.lit (.bool false)], args := [d1, d2, d3] }
  | _ => none }
def SimBadWrongFalsely : Prop := simBadRow.holds Tryd.pinned (OpenSpec.ofChange simBadWrong)

/-- 'glyphcutterlaw09.SimFronts': WHATEVER THE INPUT: true; the input reads as it did. -/
def simFrontsSpec : ChangeSpec := { name := "simFronts", fn := fun _ => fun
  | [d1, d2, d3, d4, d5] => { results := [.lit (.bool true)], args := [d1, d2, d3, d4, d5] }
  | _ => none }
def simFrontsRow : OpenClaim := { program := "ytioahgklplbinaadoor", sum := "8f0361c5c586b48ef6577fc35803adc5453174d234e541e45424411126bf4737", func := "glyphcutter/glyphcutterlaw09.SimFronts", spec := "simFronts", unfollowed := true, recurses := true, named := ["glyphcutter/set.areas"], apart := false, laid := [("glyphcutter/set.areas", laid_glyphcutter_set_areas)] }
def SimFrontsSaid : Prop := simFrontsRow.holds Tryd.pinned (OpenSpec.ofChange simFrontsSpec)

/-- ITS FALSE NEIGHBOUR: 'it returns false'. Refute it at one input. -/
def simFrontsWrong : ChangeSpec := { name := "simFronts", fn := fun _ => fun
  | [d1, d2, d3, d4, d5] => { results := [.lit (.bool false)], args := [d1, d2, d3, d4, d5] }
  | _ => none }
def SimFrontsWrongFalsely : Prop := simFrontsRow.holds Tryd.pinned (OpenSpec.ofChange simFrontsWrong)

/- THE SECOND FORM. 'bulk': how many values and letters a reading holds, each counted each time it is reached (what is shared counts as often as it is met; a slice's spare places count too). A statement '..UptoSaid' is the law's where the arguments, and the package variables that the reading takes, are together of bulk at most 1048576: NARROWER than '..Said'. Prove '..Said' where nothing that the law and all that it calls make is longer than what came in: it says more and counts as full. Else prove '..UptoSaid'. A law counts once. -/
mutual
def uptoBulk {H : Type} : DataW H → Nat
  | .lit (.string bytes) => bytes.length + 1
  | .lit _ => 1
  | .nil => 1
  | .ptr d => uptoBulk d + 1
  | .slice elems spare => uptoBulkAll elems + uptoBulkAll spare + 1
  | .agg parts => uptoBulkAll parts + 1
  | .iface _ d => uptoBulk d + 1
  | .map entries => uptoBulkEntries entries + 1
  | .held _ => 1
def uptoBulkAll {H : Type} : List (DataW H) → Nat
  | [] => 0
  | d :: r => uptoBulk d + uptoBulkAll r
def uptoBulkEntries {H : Type} : List (Lit × DataW H) → Nat
  | [] => 0
  | x :: r => uptoBulkEntry x + uptoBulkEntries r
def uptoBulkEntry {H : Type} : Lit × DataW H → Nat
  | (.string bytes, d) => bytes.length + uptoBulk d + 1
  | (_, d) => uptoBulk d + 1
 end
def uptoSmall : (H : Type) → List (DataW H) → Bool := fun _ ds => decide (uptoBulkAll ds ≤ 1048576)
def OpenSpec.upto (s : _root_.Go.ChangeSpec) : _root_.Go.OpenSpec := { _root_.Go.OpenSpec.ofChange s with cond := some uptoSmall }

/-- 'glyphcutterlaw09.SimStates', WHERE WHAT IT READS IS OF BULK AT MOST 1048576: true; the input reads as it did. -/
def simStatesUptoRow : OpenClaim := { program := "ytioahgklplbinaadoor", sum := "8f0361c5c586b48ef6577fc35803adc5453174d234e541e45424411126bf4737", func := "glyphcutter/glyphcutterlaw09.SimStates", spec := "simStates", unfollowed := true, recurses := true, named := ["glyphcutter/set.areas"], apart := false, laid := [("glyphcutter/set.areas", laid_glyphcutter_set_areas)], narrowed := true }
def SimStatesUptoSaid : Prop := simStatesUptoRow.holds Tryd.pinned (OpenSpec.upto simStatesSpec)

/-- 'glyphcutterlaw09.SimFree', WHERE WHAT IT READS IS OF BULK AT MOST 1048576: true; the input reads as it did. -/
def simFreeUptoRow : OpenClaim := { program := "ytioahgklplbinaadoor", sum := "8f0361c5c586b48ef6577fc35803adc5453174d234e541e45424411126bf4737", func := "glyphcutter/glyphcutterlaw09.SimFree", spec := "simFree", unfollowed := true, recurses := true, named := ["glyphcutter/set.areas"], apart := false, laid := [("glyphcutter/set.areas", laid_glyphcutter_set_areas)], narrowed := true }
def SimFreeUptoSaid : Prop := simFreeUptoRow.holds Tryd.pinned (OpenSpec.upto simFreeSpec)

/-- 'glyphcutterlaw09.SimGoes', WHERE WHAT IT READS IS OF BULK AT MOST 1048576: true; the input reads as it did. -/
def simGoesUptoRow : OpenClaim := { program := "ytioahgklplbinaadoor", sum := "8f0361c5c586b48ef6577fc35803adc5453174d234e541e45424411126bf4737", func := "glyphcutter/glyphcutterlaw09.SimGoes", spec := "simGoes", unfollowed := true, recurses := true, named := ["glyphcutter/set.areas"], apart := false, laid := [("glyphcutter/set.areas", laid_glyphcutter_set_areas)], narrowed := true }
def SimGoesUptoSaid : Prop := simGoesUptoRow.holds Tryd.pinned (OpenSpec.upto simGoesSpec)

/-- 'glyphcutterlaw09.SimBad', WHERE WHAT IT READS IS OF BULK AT MOST 1048576: true; the input reads as it did. -/
def simBadUptoRow : OpenClaim := { program := "ytioahgklplbinaadoor", sum := "8f0361c5c586b48ef6577fc35803adc5453174d234e541e45424411126bf4737", func := "glyphcutter/glyphcutterlaw09.SimBad", spec := "simBad", unfollowed := true, recurses := true, named := ["glyphcutter/set.areas"], apart := false, laid := [("glyphcutter/set.areas", laid_glyphcutter_set_areas)], narrowed := true }
def SimBadUptoSaid : Prop := simBadUptoRow.holds Tryd.pinned (OpenSpec.upto simBadSpec)

/-- 'glyphcutterlaw09.SimFronts', WHERE WHAT IT READS IS OF BULK AT MOST 1048576: true; the input reads as it did. -/
def simFrontsUptoRow : OpenClaim := { program := "ytioahgklplbinaadoor", sum := "8f0361c5c586b48ef6577fc35803adc5453174d234e541e45424411126bf4737", func := "glyphcutter/glyphcutterlaw09.SimFronts", spec := "simFronts", unfollowed := true, recurses := true, named := ["glyphcutter/set.areas"], apart := false, laid := [("glyphcutter/set.areas", laid_glyphcutter_set_areas)], narrowed := true }
def SimFrontsUptoSaid : Prop := simFrontsUptoRow.holds Tryd.pinned (OpenSpec.upto simFrontsSpec)

end Rows
end Go.Proofs.YtioahgklplbinaaDoor
