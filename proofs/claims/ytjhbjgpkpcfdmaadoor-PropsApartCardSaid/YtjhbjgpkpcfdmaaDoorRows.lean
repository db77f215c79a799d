/-
  NARROWER THAN 'FOR EVERY INPUT', by the rows' own cells (each row's printed sentence says how): PropsApart: laid · PropsAll: laid · PropsOf: laid · PropsNames: laid · PropsLoose: laid · PropsMade: laid.
  DERIVED. THE GIVEN ROWS OF THIS SEAT. 6 by the template 'for every input the law returns true; each argument reads behind the call as it read before'; 0 by the template 'total and deterministic' (their statements: YtjhbjgpkpcfdmaaDoorTotals.lean).
  GIVEN WITH THE SEED: the statements are not yours to turn. If you find one false, say at which input.
  Laid BY PROGRAM, IN A SANDBOX (cutbox-rows.mjs): the forced cells as the released guide's own fill.sh prints them over the translation b66c6ceeb43f42fa… (all of the seat's roots in one cut). By AI agents, Wed Nov 11 2026. No macro, syntax, notation, axiom, sorry.
-/
import Derived.Test.YtjhbjgpkpcfdmaaDoorChecked
import GoSem.Claim
import GoSem.ClaimJoined
import GoSem.ClaimMapViews
import Derived.JoinedTies
import Derived.KernelRfl
namespace Go.Proofs.YtjhbjgpkpcfdmaaDoor
/- THE CELL 'sum', in the pinned program and in every row, IS THE sha256 OF THE DUMP (.gsa) THAT YtjhbjgpkpcfdmaaDoorProg.lean LOADS. Nothing in Lean hashes anything: it is a label: what it is worth is what the hold of that sum in a sandbox is worth. -/
noncomputable def Tryd.pinned : Pinned := { name := "ytjhbjgpkpcfdmaadoor", sum := "b66c6ceeb43f42fa55cd1d0f99b0c3000f2fe90aee665686b49341a30f8e2ea1", checked := Tryd.checked }
namespace Rows
def none {H : Type} : Left H := { results := [], args := [] }

/- WHAT THE LISTED PACKAGE-LEVEL VARIABLES READ AS WHEN THE CALL BEGINS. Each datum BY PROGRAM (the guide's laid-datum.mjs) off the statement by which the dump's own 'gosem.cut.vars' lays the variable. In a bare row this is a premise. The card (YtjhbjgpkpcfdmaaDoorCards.lean) ties it to the program's text. -/
def laid_glyphcutter_set_areas {H : Type} : DataW H := .agg [.agg [.lit (.int .i64 0), .lit (.int .i64 55295)], .agg [.lit (.int .i64 57344), .lit (.int .i64 1114111)]]

/-- 'glyphcutterlaw05.PropsApart': WHATEVER THE INPUT: true; the input reads as it did. -/
def propsApartSpec : ChangeSpec := { name := "propsApart", fn := fun _ => fun
  | [d] => { results := [.lit (.bool true)], args := [d] }
  | _ => none }
def propsApartRow : OpenClaim := { program := "ytjhbjgpkpcfdmaadoor", sum := "b66c6ceeb43f42fa55cd1d0f99b0c3000f2fe90aee665686b49341a30f8e2ea1", func := "glyphcutter/glyphcutterlaw05.PropsApart", spec := "propsApart", inPlace := ["internal/abi.NoEscape"], unfollowed := true, recurses := true, named := ["glyphcutter/set.areas"], apart := false, laid := [("glyphcutter/set.areas", laid_glyphcutter_set_areas)] }
def PropsApartSaid : Prop := propsApartRow.holds Tryd.pinned (OpenSpec.ofChange propsApartSpec)

/-- ITS FALSE NEIGHBOUR: 'it returns false'. Refute it at one input. -/
def propsApartWrong : ChangeSpec := { name := "propsApart", fn := fun _ => fun
  | [d] => { results := [.lit (.bool false)], args := [d] }
  | _ => none }
def PropsApartWrongFalsely : Prop := propsApartRow.holds Tryd.pinned (OpenSpec.ofChange propsApartWrong)

/-- 'glyphcutterlaw05.PropsAll': WHATEVER THE INPUT: true; the input reads as it did. -/
def propsAllSpec : ChangeSpec := { name := "propsAll", fn := fun _ => fun
  | [d] => { results := [.lit (.bool true)], args := [d] }
  | _ => none }
def propsAllRow : OpenClaim := { program := "ytjhbjgpkpcfdmaadoor", sum := "b66c6ceeb43f42fa55cd1d0f99b0c3000f2fe90aee665686b49341a30f8e2ea1", func := "glyphcutter/glyphcutterlaw05.PropsAll", spec := "propsAll", inPlace := ["internal/abi.NoEscape"], unfollowed := true, recurses := true, named := ["glyphcutter/set.areas"], apart := false, laid := [("glyphcutter/set.areas", laid_glyphcutter_set_areas)] }
def PropsAllSaid : Prop := propsAllRow.holds Tryd.pinned (OpenSpec.ofChange propsAllSpec)

/-- ITS FALSE NEIGHBOUR: 'it returns false'. Refute it at one input. -/
def propsAllWrong : ChangeSpec := { name := "propsAll", fn := fun _ => fun
  | [d] => { results := [.lit (.bool false)], args := [d] }
  | _ => none }
def PropsAllWrongFalsely : Prop := propsAllRow.holds Tryd.pinned (OpenSpec.ofChange propsAllWrong)

/-- 'glyphcutterlaw05.PropsOf': WHATEVER THE INPUT: true; the input reads as it did. -/
def propsOfSpec : ChangeSpec := { name := "propsOf", fn := fun _ => fun
  | [d1, d2] => { results := [.lit (.bool true)], args := [d1, d2] }
  | _ => none }
def propsOfRow : OpenClaim := { program := "ytjhbjgpkpcfdmaadoor", sum := "b66c6ceeb43f42fa55cd1d0f99b0c3000f2fe90aee665686b49341a30f8e2ea1", func := "glyphcutter/glyphcutterlaw05.PropsOf", spec := "propsOf", inPlace := ["internal/abi.NoEscape"], unfollowed := true, recurses := true, named := ["glyphcutter/set.areas"], apart := false, laid := [("glyphcutter/set.areas", laid_glyphcutter_set_areas)] }
def PropsOfSaid : Prop := propsOfRow.holds Tryd.pinned (OpenSpec.ofChange propsOfSpec)

/-- ITS FALSE NEIGHBOUR: 'it returns false'. Refute it at one input. -/
def propsOfWrong : ChangeSpec := { name := "propsOf", fn := fun _ => fun
  | [d1, d2] => { results := [.lit (.bool false)], args := [d1, d2] }
  | _ => none }
def PropsOfWrongFalsely : Prop := propsOfRow.holds Tryd.pinned (OpenSpec.ofChange propsOfWrong)

/-- 'glyphcutterlaw05.PropsNames': WHATEVER THE INPUT: true; the input reads as it did. -/
def propsNamesSpec : ChangeSpec := { name := "propsNames", fn := fun _ => fun
  | [d] => { results := [.lit (.bool true)], args := [d] }
  | _ => none }
def propsNamesRow : OpenClaim := { program := "ytjhbjgpkpcfdmaadoor", sum := "b66c6ceeb43f42fa55cd1d0f99b0c3000f2fe90aee665686b49341a30f8e2ea1", func := "glyphcutter/glyphcutterlaw05.PropsNames", spec := "propsNames", inPlace := ["internal/abi.NoEscape"], unfollowed := true, recurses := true, named := ["glyphcutter/set.areas"], apart := false, laid := [("glyphcutter/set.areas", laid_glyphcutter_set_areas)] }
def PropsNamesSaid : Prop := propsNamesRow.holds Tryd.pinned (OpenSpec.ofChange propsNamesSpec)

/-- ITS FALSE NEIGHBOUR: 'it returns false'. Refute it at one input. -/
def propsNamesWrong : ChangeSpec := { name := "propsNames", fn := fun _ => fun
  | [d] => { results := [.lit (.bool false)], args := [d] }
  | _ => none }
def PropsNamesWrongFalsely : Prop := propsNamesRow.holds Tryd.pinned (OpenSpec.ofChange propsNamesWrong)

/-- 'glyphcutterlaw05.PropsLoose': WHATEVER THE INPUT: true; the input reads as it did. -/
def propsLooseSpec : ChangeSpec := { name := "propsLoose", fn := fun _ => fun
  | [d1, d2, d3] => { results := [.lit (.bool true)], args := [d1, d2, d3] }
  | _ => none }
def propsLooseRow : OpenClaim := { program := "ytjhbjgpkpcfdmaadoor", sum := "b66c6ceeb43f42fa55cd1d0f99b0c3000f2fe90aee665686b49341a30f8e2ea1", func := "glyphcutter/glyphcutterlaw05.PropsLoose", spec := "propsLoose", inPlace := ["internal/abi.NoEscape"], unfollowed := true, recurses := true, named := ["glyphcutter/set.areas"], apart := false, laid := [("glyphcutter/set.areas", laid_glyphcutter_set_areas)] }
def PropsLooseSaid : Prop := propsLooseRow.holds Tryd.pinned (OpenSpec.ofChange propsLooseSpec)

/-- ITS FALSE NEIGHBOUR: 'it returns false'. Refute it at one input. -/
def propsLooseWrong : ChangeSpec := { name := "propsLoose", fn := fun _ => fun
  | [d1, d2, d3] => { results := [.lit (.bool false)], args := [d1, d2, d3] }
  | _ => none }
def PropsLooseWrongFalsely : Prop := propsLooseRow.holds Tryd.pinned (OpenSpec.ofChange propsLooseWrong)

/-- 'glyphcutterlaw05.PropsMade': WHATEVER THE INPUT: true; the input reads as it did. -/
def propsMadeSpec : ChangeSpec := { name := "propsMade", fn := fun _ => fun
  | [d] => { results := [.lit (.bool true)], args := [d] }
  | _ => none }
def propsMadeRow : OpenClaim := { program := "ytjhbjgpkpcfdmaadoor", sum := "b66c6ceeb43f42fa55cd1d0f99b0c3000f2fe90aee665686b49341a30f8e2ea1", func := "glyphcutter/glyphcutterlaw05.PropsMade", spec := "propsMade", inPlace := ["internal/abi.NoEscape"], unfollowed := true, recurses := true, named := ["glyphcutter/set.areas"], apart := false, laid := [("glyphcutter/set.areas", laid_glyphcutter_set_areas)] }
def PropsMadeSaid : Prop := propsMadeRow.holds Tryd.pinned (OpenSpec.ofChange propsMadeSpec)

/-- ITS FALSE NEIGHBOUR: 'it returns false'. Refute it at one input. -/
def propsMadeWrong : ChangeSpec := { name := "propsMade", fn := fun _ => fun
  | [d] => { results := [.lit (.bool false)], args := [d] }
  | _ => none }
def PropsMadeWrongFalsely : Prop := propsMadeRow.holds Tryd.pinned (OpenSpec.ofChange propsMadeWrong)

/- THE SECOND FORM. 'bulk': how many values and letters a reading holds, each counted each time it is reached (what is shared counts as often as it is met; a slice's spare places count too). A statement '..UptoSaid' is the law's where the arguments, and the package variables that the reading takes, are together of bulk at most 1048576: NARROWER than '..Said'. Prove '..Said' where nothing that the law and all that it calls make is longer than what came in: it says more and counts as full. Else prove '..UptoSaid'. A law counts once. -/
mutual
def uptoBulk {H : Type} : DataW H → Nat
  | .lit (.string bytes) => bytes.length + 1
  | .lit _ => 1
  | .nil => 1
  | .ptr d => uptoBulk d + 1
  | .slice elems spare => uptoBulkAll elems + uptoBulkAll spare + 1
  | .agg parts => uptoBulkAll parts + 1
  | .iface _ d => uptoBulk d + 1
  | .map entries => uptoBulkEntries entries + 1
  | .held _ => 1
def uptoBulkAll {H : Type} : List (DataW H) → Nat
  | [] => 0
  | d :: r => uptoBulk d + uptoBulkAll r
def uptoBulkEntries {H : Type} : List (Lit × DataW H) → Nat
  | [] => 0
  | x :: r => uptoBulkEntry x + uptoBulkEntries r
def uptoBulkEntry {H : Type} : Lit × DataW H → Nat
  | (.string bytes, d) => bytes.length + uptoBulk d + 1
  | (_, d) => uptoBulk d + 1
 end
def uptoSmall : (H : Type) → List (DataW H) → Bool := fun _ ds => decide (uptoBulkAll ds ≤ 1048576)
def OpenSpec.upto (s : _root_.Go.ChangeSpec) : _root_.Go.OpenSpec := { _root_.Go.OpenSpec.ofChange s with cond := some uptoSmall }

/-- 'glyphcutterlaw05.PropsApart', WHERE WHAT IT READS IS OF BULK AT MOST 1048576: true; the input reads as it did. -/
def propsApartUptoRow : OpenClaim := { program := "ytjhbjgpkpcfdmaadoor", sum := "b66c6ceeb43f42fa55cd1d0f99b0c3000f2fe90aee665686b49341a30f8e2ea1", func := "glyphcutter/glyphcutterlaw05.PropsApart", spec := "propsApart", inPlace := ["internal/abi.NoEscape"], unfollowed := true, recurses := true, named := ["glyphcutter/set.areas"], apart := false, laid := [("glyphcutter/set.areas", laid_glyphcutter_set_areas)], narrowed := true }
def PropsApartUptoSaid : Prop := propsApartUptoRow.holds Tryd.pinned (OpenSpec.upto propsApartSpec)

/-- 'glyphcutterlaw05.PropsAll', WHERE WHAT IT READS IS OF BULK AT MOST 1048576: true; the input reads as it did. -/
def propsAllUptoRow : OpenClaim := { program := "ytjhbjgpkpcfdmaadoor", sum := "b66c6ceeb43f42fa55cd1d0f99b0c3000f2fe90aee665686b49341a30f8e2ea1", func := "glyphcutter/glyphcutterlaw05.PropsAll", spec := "propsAll", inPlace := ["internal/abi.NoEscape"], unfollowed := true, recurses := true, named := ["glyphcutter/set.areas"], apart := false, laid := [("glyphcutter/set.areas", laid_glyphcutter_set_areas)], narrowed := true }
def PropsAllUptoSaid : Prop := propsAllUptoRow.holds Tryd.pinned (OpenSpec.upto propsAllSpec)

/-- 'glyphcutterlaw05.PropsOf', WHERE WHAT IT READS IS OF BULK AT MOST 1048576: true; the input reads as it did. -/
def propsOfUptoRow : OpenClaim := { program := "ytjhbjgpkpcfdmaadoor", sum := "b66c6ceeb43f42fa55cd1d0f99b0c3000f2fe90aee665686b49341a30f8e2ea1", func := "glyphcutter/glyphcutterlaw05.PropsOf", spec := "propsOf", inPlace := ["internal/abi.NoEscape"], unfollowed := true, recurses := true, named := ["glyphcutter/set.areas"], apart := false, laid := [("glyphcutter/set.areas", laid_glyphcutter_set_areas)], narrowed := true }
def PropsOfUptoSaid : Prop := propsOfUptoRow.holds Tryd.pinned (OpenSpec.upto propsOfSpec)

/-- 'glyphcutterlaw05.PropsNames', WHERE WHAT IT READS IS OF BULK AT MOST 1048576: true; the input reads as it did. -/
def propsNamesUptoRow : OpenClaim := { program := "ytjhbjgpkpcfdmaadoor", sum := "b66c6ceeb43f42fa55cd1d0f99b0c3000f2fe90aee665686b49341a30f8e2ea1", func := "glyphcutter/glyphcutterlaw05.PropsNames", spec := "propsNames", inPlace := ["internal/abi.NoEscape"], unfollowed := true, recurses := true, named := ["glyphcutter/set.areas"], apart := false, laid := [("glyphcutter/set.areas", laid_glyphcutter_set_areas)], narrowed := true }
def PropsNamesUptoSaid : Prop := propsNamesUptoRow.holds Tryd.pinned (OpenSpec.upto propsNamesSpec)

/-- 'glyphcutterlaw05.PropsLoose', WHERE WHAT IT READS IS OF BULK AT MOST 1048576: true; the input reads as it did. -/
def propsLooseUptoRow : OpenClaim := { program := "ytjhbjgpkpcfdmaadoor", sum := "b66c6ceeb43f42fa55cd1d0f99b0c3000f2fe90aee665686b49341a30f8e2ea1", func := "glyphcutter/glyphcutterlaw05.PropsLoose", spec := "propsLoose", inPlace := ["internal/abi.NoEscape"], unfollowed := true, recurses := true, named := ["glyphcutter/set.areas"], apart := false, laid := [("glyphcutter/set.areas", laid_glyphcutter_set_areas)], narrowed := true }
def PropsLooseUptoSaid : Prop := propsLooseUptoRow.holds Tryd.pinned (OpenSpec.upto propsLooseSpec)

/-- 'glyphcutterlaw05.PropsMade', WHERE WHAT IT READS IS OF BULK AT MOST 1048576: true; the input reads as it did. -/
def propsMadeUptoRow : OpenClaim := { program := "ytjhbjgpkpcfdmaadoor", sum := "b66c6ceeb43f42fa55cd1d0f99b0c3000f2fe90aee665686b49341a30f8e2ea1", func := "glyphcutter/glyphcutterlaw05.PropsMade", spec := "propsMade", inPlace := ["internal/abi.NoEscape"], unfollowed := true, recurses := true, named := ["glyphcutter/set.areas"], apart := false, laid := [("glyphcutter/set.areas", laid_glyphcutter_set_areas)], narrowed := true }
def PropsMadeUptoSaid : Prop := propsMadeUptoRow.holds Tryd.pinned (OpenSpec.upto propsMadeSpec)

end Rows
end Go.Proofs.YtjhbjgpkpcfdmaaDoor
