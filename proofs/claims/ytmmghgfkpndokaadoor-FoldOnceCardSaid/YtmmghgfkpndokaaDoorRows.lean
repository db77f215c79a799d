/-
  NARROWER THAN 'FOR EVERY INPUT', by the rows' own cells (each row's printed sentence says how): FoldSmall: laid · FoldUnion: laid · FoldFolds: laid · FoldOnce: laid · FoldCloses: laid · FoldTwice: laid.
  DERIVED. THE GIVEN ROWS OF THIS SEAT. 6 by the template 'for every input the law returns true; each argument reads behind the call as it read before'; 0 by the template 'total and deterministic' (their statements: YtmmghgfkpndokaaDoorTotals.lean).
  GIVEN WITH THE SEED: the statements are not yours to turn. If you find one false, say at which input.
  Laid BY PROGRAM, IN A SANDBOX (cutbox-rows.mjs): the forced cells as the released guide's own fill.sh prints them over the translation 9d613a74fa4d87c6… (all of the seat's roots in one cut). By AI agents, Wed Nov 11 2026. No macro, syntax, notation, axiom, sorry.
-/
import Derived.Test.YtmmghgfkpndokaaDoorChecked
import GoSem.Claim
import GoSem.ClaimJoined
import GoSem.ClaimMapViews
import Derived.JoinedTies
import Derived.KernelRfl
namespace Go.Proofs.YtmmghgfkpndokaaDoor
/- THE CELL 'sum', in the pinned program and in every row, IS THE sha256 OF THE DUMP (.gsa) THAT YtmmghgfkpndokaaDoorProg.lean LOADS. Nothing in Lean hashes anything: it is a label: what it is worth is what the hold of that sum in a sandbox is worth. -/
noncomputable def Tryd.pinned : Pinned := { name := "ytmmghgfkpndokaadoor", sum := "9d613a74fa4d87c632cb663cf32087ce1eedf624aa50d49971efdc42008e3cdc", checked := Tryd.checked }
namespace Rows
def none {H : Type} : Left H := { results := [], args := [] }

/- WHAT THE LISTED PACKAGE-LEVEL VARIABLES READ AS WHEN THE CALL BEGINS. Each datum BY PROGRAM (the guide's laid-datum.mjs) off the statement by which the dump's own 'gosem.cut.vars' lays the variable. In a bare row this is a premise. The card (YtmmghgfkpndokaaDoorCards.lean) ties it to the program's text. -/
def laid_glyphcutter_set_areas {H : Type} : DataW H := .agg [.agg [.lit (.int .i64 0), .lit (.int .i64 55295)], .agg [.lit (.int .i64 57344), .lit (.int .i64 1114111)]]
def laid_glyphcutter_fold_runs {H : Type} : DataW H := .agg [.agg [.lit (.int .i64 65), .lit (.int .i64 90), .lit (.int .i64 97)], .agg [.lit (.int .i64 181), .lit (.int .i64 181), .lit (.int .i64 956)], .agg [.lit (.int .i64 192), .lit (.int .i64 214), .lit (.int .i64 224)], .agg [.lit (.int .i64 216), .lit (.int .i64 222), .lit (.int .i64 248)], .agg [.lit (.int .i64 913), .lit (.int .i64 929), .lit (.int .i64 945)], .agg [.lit (.int .i64 931), .lit (.int .i64 937), .lit (.int .i64 963)], .agg [.lit (.int .i64 962), .lit (.int .i64 962), .lit (.int .i64 963)], .agg [.lit (.int .i64 1024), .lit (.int .i64 1039), .lit (.int .i64 1104)], .agg [.lit (.int .i64 1040), .lit (.int .i64 1071), .lit (.int .i64 1072)], .agg [.lit (.int .i64 7838), .lit (.int .i64 7838), .lit (.int .i64 223)], .agg [.lit (.int .i64 8486), .lit (.int .i64 8486), .lit (.int .i64 969)], .agg [.lit (.int .i64 8490), .lit (.int .i64 8490), .lit (.int .i64 107)], .agg [.lit (.int .i64 8491), .lit (.int .i64 8491), .lit (.int .i64 229)]]

/-- 'glyphcutterlaw04.FoldSmall': WHATEVER THE INPUT: true; the input reads as it did. -/
def foldSmallSpec : ChangeSpec := { name := "foldSmall", fn := fun _ => fun
  | [d] => { results := [.lit (.bool true)], args := [d] }
  | _ => none }
def foldSmallRow : OpenClaim := { program := "ytmmghgfkpndokaadoor", sum := "9d613a74fa4d87c632cb663cf32087ce1eedf624aa50d49971efdc42008e3cdc", func := "glyphcutter/glyphcutterlaw04.FoldSmall", spec := "foldSmall", unfollowed := true, recurses := true, named := ["glyphcutter/fold.runs", "glyphcutter/set.areas"], apart := false, laid := [("glyphcutter/set.areas", laid_glyphcutter_set_areas), ("glyphcutter/fold.runs", laid_glyphcutter_fold_runs)] }
def FoldSmallSaid : Prop := foldSmallRow.holds Tryd.pinned (OpenSpec.ofChange foldSmallSpec)

/-- ITS FALSE NEIGHBOUR: 'it returns false'. Refute it at one input. -/
def foldSmallWrong : ChangeSpec := { name := "foldSmall", fn := fun _ => fun
  | [d] => { results := [.lit (.bool false)], args := [d] }
  | _ => none }
def FoldSmallWrongFalsely : Prop := foldSmallRow.holds Tryd.pinned (OpenSpec.ofChange foldSmallWrong)

/-- 'glyphcutterlaw04.FoldUnion': WHATEVER THE INPUT: true; the input reads as it did. -/
def foldUnionSpec : ChangeSpec := { name := "foldUnion", fn := fun _ => fun
  | [d1, d2] => { results := [.lit (.bool true)], args := [d1, d2] }
  | _ => none }
def foldUnionRow : OpenClaim := { program := "ytmmghgfkpndokaadoor", sum := "9d613a74fa4d87c632cb663cf32087ce1eedf624aa50d49971efdc42008e3cdc", func := "glyphcutter/glyphcutterlaw04.FoldUnion", spec := "foldUnion", unfollowed := true, recurses := true, named := ["glyphcutter/set.areas", "glyphcutter/fold.runs"], apart := false, laid := [("glyphcutter/set.areas", laid_glyphcutter_set_areas), ("glyphcutter/fold.runs", laid_glyphcutter_fold_runs)] }
def FoldUnionSaid : Prop := foldUnionRow.holds Tryd.pinned (OpenSpec.ofChange foldUnionSpec)

/-- ITS FALSE NEIGHBOUR: 'it returns false'. Refute it at one input. -/
def foldUnionWrong : ChangeSpec := { name := "foldUnion", fn := fun _ => fun
  | [d1, d2] => { results := [.lit (.bool false)], args := [d1, d2] }
  | _ => none }
def FoldUnionWrongFalsely : Prop := foldUnionRow.holds Tryd.pinned (OpenSpec.ofChange foldUnionWrong)

/-- 'glyphcutterlaw04.FoldFolds': WHATEVER THE INPUT: true; the input reads as it did. -/
def foldFoldsSpec : ChangeSpec := { name := "foldFolds", fn := fun _ => fun
  | [d1, d2] => { results := [.lit (.bool true)], args := [d1, d2] }
  | _ => none }
def foldFoldsRow : OpenClaim := { program := "ytmmghgfkpndokaadoor", sum := "9d613a74fa4d87c632cb663cf32087ce1eedf624aa50d49971efdc42008e3cdc", func := "glyphcutter/glyphcutterlaw04.FoldFolds", spec := "foldFolds", unfollowed := true, recurses := true, named := ["glyphcutter/set.areas", "glyphcutter/fold.runs"], apart := false, laid := [("glyphcutter/set.areas", laid_glyphcutter_set_areas), ("glyphcutter/fold.runs", laid_glyphcutter_fold_runs)] }
def FoldFoldsSaid : Prop := foldFoldsRow.holds Tryd.pinned (OpenSpec.ofChange foldFoldsSpec)

/-- ITS FALSE NEIGHBOUR: 'it returns false'. Refute it at one input. -/
def foldFoldsWrong : ChangeSpec := { name := "foldFolds", fn := fun _ => fun
  | [d1, d2] => { results := [.lit (.bool false)], args := [d1, d2] }
  | _ => none }
def FoldFoldsWrongFalsely : Prop := foldFoldsRow.holds Tryd.pinned (OpenSpec.ofChange foldFoldsWrong)

/-- 'glyphcutterlaw04.FoldOnce': WHATEVER THE INPUT: true; the input reads as it did. -/
def foldOnceSpec : ChangeSpec := { name := "foldOnce", fn := fun _ => fun
  | [d1, d2] => { results := [.lit (.bool true)], args := [d1, d2] }
  | _ => none }
def foldOnceRow : OpenClaim := { program := "ytmmghgfkpndokaadoor", sum := "9d613a74fa4d87c632cb663cf32087ce1eedf624aa50d49971efdc42008e3cdc", func := "glyphcutter/glyphcutterlaw04.FoldOnce", spec := "foldOnce", unfollowed := true, recurses := true, named := ["glyphcutter/set.areas", "glyphcutter/fold.runs"], apart := false, laid := [("glyphcutter/set.areas", laid_glyphcutter_set_areas), ("glyphcutter/fold.runs", laid_glyphcutter_fold_runs)] }
def FoldOnceSaid : Prop := foldOnceRow.holds Tryd.pinned (OpenSpec.ofChange foldOnceSpec)

/-- ITS FALSE NEIGHBOUR: 'it returns false'. Refute it at one input. -/
def foldOnceWrong : ChangeSpec := { name := "foldOnce", fn := fun _ => fun
  | [d1, d2] => { results := [.lit (.bool false)], args := [d1, d2] }
  | _ => none }
def FoldOnceWrongFalsely : Prop := foldOnceRow.holds Tryd.pinned (OpenSpec.ofChange foldOnceWrong)

/-- 'glyphcutterlaw04.FoldCloses': WHATEVER THE INPUT: true; the input reads as it did. -/
def foldClosesSpec : ChangeSpec := { name := "foldCloses", fn := fun _ => fun
  | [d1, d2, d3] => { results := [.lit (.bool true)], args := [d1, d2, d3] }
  | _ => none }
def foldClosesRow : OpenClaim := { program := "ytmmghgfkpndokaadoor", sum := "9d613a74fa4d87c632cb663cf32087ce1eedf624aa50d49971efdc42008e3cdc", func := "glyphcutter/glyphcutterlaw04.FoldCloses", spec := "foldCloses", unfollowed := true, recurses := true, named := ["glyphcutter/set.areas", "glyphcutter/fold.runs"], apart := false, laid := [("glyphcutter/set.areas", laid_glyphcutter_set_areas), ("glyphcutter/fold.runs", laid_glyphcutter_fold_runs)] }
def FoldClosesSaid : Prop := foldClosesRow.holds Tryd.pinned (OpenSpec.ofChange foldClosesSpec)

/-- ITS FALSE NEIGHBOUR: 'it returns false'. Refute it at one input. -/
def foldClosesWrong : ChangeSpec := { name := "foldCloses", fn := fun _ => fun
  | [d1, d2, d3] => { results := [.lit (.bool false)], args := [d1, d2, d3] }
  | _ => none }
def FoldClosesWrongFalsely : Prop := foldClosesRow.holds Tryd.pinned (OpenSpec.ofChange foldClosesWrong)

/-- 'glyphcutterlaw04.FoldTwice': WHATEVER THE INPUT: true; the input reads as it did. -/
def foldTwiceSpec : ChangeSpec := { name := "foldTwice", fn := fun _ => fun
  | [d1, d2] => { results := [.lit (.bool true)], args := [d1, d2] }
  | _ => none }
def foldTwiceRow : OpenClaim := { program := "ytmmghgfkpndokaadoor", sum := "9d613a74fa4d87c632cb663cf32087ce1eedf624aa50d49971efdc42008e3cdc", func := "glyphcutter/glyphcutterlaw04.FoldTwice", spec := "foldTwice", unfollowed := true, recurses := true, named := ["glyphcutter/set.areas", "glyphcutter/fold.runs"], apart := false, laid := [("glyphcutter/set.areas", laid_glyphcutter_set_areas), ("glyphcutter/fold.runs", laid_glyphcutter_fold_runs)] }
def FoldTwiceSaid : Prop := foldTwiceRow.holds Tryd.pinned (OpenSpec.ofChange foldTwiceSpec)

/-- ITS FALSE NEIGHBOUR: 'it returns false'. Refute it at one input. -/
def foldTwiceWrong : ChangeSpec := { name := "foldTwice", fn := fun _ => fun
  | [d1, d2] => { results := [.lit (.bool false)], args := [d1, d2] }
  | _ => none }
def FoldTwiceWrongFalsely : Prop := foldTwiceRow.holds Tryd.pinned (OpenSpec.ofChange foldTwiceWrong)

/- THE SECOND FORM. 'bulk': how many values and letters a reading holds, each counted each time it is reached (what is shared counts as often as it is met; a slice's spare places count too). A statement '..UptoSaid' is the law's where the arguments, and the package variables that the reading takes, are together of bulk at most 1048576: NARROWER than '..Said'. Prove '..Said' where nothing that the law and all that it calls make is longer than what came in: it says more and counts as full. Else prove '..UptoSaid'. A law counts once. -/
mutual
def uptoBulk {H : Type} : DataW H → Nat
  | .lit (.string bytes) => bytes.length + 1
  | .lit _ => 1
  | .nil => 1
  | .ptr d => uptoBulk d + 1
  | .slice elems spare => uptoBulkAll elems + uptoBulkAll spare + 1
  | .agg parts => uptoBulkAll parts + 1
  | .iface _ d => uptoBulk d + 1
  | .map entries => uptoBulkEntries entries + 1
  | .held _ => 1
def uptoBulkAll {H : Type} : List (DataW H) → Nat
  | [] => 0
  | d :: r => uptoBulk d + uptoBulkAll r
def uptoBulkEntries {H : Type} : List (Lit × DataW H) → Nat
  | [] => 0
  | x :: r => uptoBulkEntry x + uptoBulkEntries r
def uptoBulkEntry {H : Type} : Lit × DataW H → Nat
  | (.string bytes, d) => bytes.length + uptoBulk d + 1
  | (_, d) => uptoBulk d + 1
 end
def uptoSmall : (H : Type) → List (DataW H) → Bool := fun _ ds => decide (uptoBulkAll ds ≤ 1048576)
def OpenSpec.upto (s : _root_.Go.ChangeSpec) : _root_.Go.OpenSpec := { _root_.Go.OpenSpec.ofChange s with cond := some uptoSmall }

/-- 'glyphcutterlaw04.FoldSmall', WHERE WHAT IT READS IS OF BULK AT MOST 1048576: true; the input reads as it did. -/
def foldSmallUptoRow : OpenClaim := { program := "ytmmghgfkpndokaadoor", sum := "9d613a74fa4d87c632cb663cf32087ce1eedf624aa50d49971efdc42008e3cdc", func := "glyphcutter/glyphcutterlaw04.FoldSmall", spec := "foldSmall", unfollowed := true, recurses := true, named := ["glyphcutter/fold.runs", "glyphcutter/set.areas"], apart := false, laid := [("glyphcutter/set.areas", laid_glyphcutter_set_areas), ("glyphcutter/fold.runs", laid_glyphcutter_fold_runs)], narrowed := true }
def FoldSmallUptoSaid : Prop := foldSmallUptoRow.holds Tryd.pinned (OpenSpec.upto foldSmallSpec)

/-- 'glyphcutterlaw04.FoldUnion', WHERE WHAT IT READS IS OF BULK AT MOST 1048576: true; the input reads as it did. -/
def foldUnionUptoRow : OpenClaim := { program := "ytmmghgfkpndokaadoor", sum := "9d613a74fa4d87c632cb663cf32087ce1eedf624aa50d49971efdc42008e3cdc", func := "glyphcutter/glyphcutterlaw04.FoldUnion", spec := "foldUnion", unfollowed := true, recurses := true, named := ["glyphcutter/set.areas", "glyphcutter/fold.runs"], apart := false, laid := [("glyphcutter/set.areas", laid_glyphcutter_set_areas), ("glyphcutter/fold.runs", laid_glyphcutter_fold_runs)], narrowed := true }
def FoldUnionUptoSaid : Prop := foldUnionUptoRow.holds Tryd.pinned (OpenSpec.upto foldUnionSpec)

/-- 'glyphcutterlaw04.FoldFolds', WHERE WHAT IT READS IS OF BULK AT MOST 1048576: true; the input reads as it did. -/
def foldFoldsUptoRow : OpenClaim := { program := "ytmmghgfkpndokaadoor", sum := "9d613a74fa4d87c632cb663cf32087ce1eedf624aa50d49971efdc42008e3cdc", func := "glyphcutter/glyphcutterlaw04.FoldFolds", spec := "foldFolds", unfollowed := true, recurses := true, named := ["glyphcutter/set.areas", "glyphcutter/fold.runs"], apart := false, laid := [("glyphcutter/set.areas", laid_glyphcutter_set_areas), ("glyphcutter/fold.runs", laid_glyphcutter_fold_runs)], narrowed := true }
def FoldFoldsUptoSaid : Prop := foldFoldsUptoRow.holds Tryd.pinned (OpenSpec.upto foldFoldsSpec)

/-- 'glyphcutterlaw04.FoldOnce', WHERE WHAT IT READS IS OF BULK AT MOST 1048576: true; the input reads as it did. -/
def foldOnceUptoRow : OpenClaim := { program := "ytmmghgfkpndokaadoor", sum := "9d613a74fa4d87c632cb663cf32087ce1eedf624aa50d49971efdc42008e3cdc", func := "glyphcutter/glyphcutterlaw04.FoldOnce", spec := "foldOnce", unfollowed := true, recurses := true, named := ["glyphcutter/set.areas", "glyphcutter/fold.runs"], apart := false, laid := [("glyphcutter/set.areas", laid_glyphcutter_set_areas), ("glyphcutter/fold.runs", laid_glyphcutter_fold_runs)], narrowed := true }
def FoldOnceUptoSaid : Prop := foldOnceUptoRow.holds Tryd.pinned (OpenSpec.upto foldOnceSpec)

/-- 'glyphcutterlaw04.FoldCloses', WHERE WHAT IT READS IS OF BULK AT MOST 1048576: true; the input reads as it did. -/
def foldClosesUptoRow : OpenClaim := { program := "ytmmghgfkpndokaadoor", sum := "9d613a74fa4d87c632cb663cf32087ce1eedf624aa50d49971efdc42008e3cdc", func := "glyphcutter/glyphcutterlaw04.FoldCloses", spec := "foldCloses", unfollowed := true, recurses := true, named := ["glyphcutter/set.areas", "glyphcutter/fold.runs"], apart := false, laid := [("glyphcutter/set.areas", laid_glyphcutter_set_areas), ("glyphcutter/fold.runs", laid_glyphcutter_fold_runs)], narrowed := true }
def FoldClosesUptoSaid : Prop := foldClosesUptoRow.holds Tryd.pinned (OpenSpec.upto foldClosesSpec)

/-- 'glyphcutterlaw04.FoldTwice', WHERE WHAT IT READS IS OF BULK AT MOST 1048576: true; the input reads as it did. -/
def foldTwiceUptoRow : OpenClaim := { program := "ytmmghgfkpndokaadoor", sum := "9d613a74fa4d87c632cb663cf32087ce1eedf624aa50d49971efdc42008e3cdc", func := "glyphcutter/glyphcutterlaw04.FoldTwice", spec := "foldTwice", unfollowed := true, recurses := true, named := ["glyphcutter/set.areas", "glyphcutter/fold.runs"], apart := false, laid := [("glyphcutter/set.areas", laid_glyphcutter_set_areas), ("glyphcutter/fold.runs", laid_glyphcutter_fold_runs)], narrowed := true }
def FoldTwiceUptoSaid : Prop := foldTwiceUptoRow.holds Tryd.pinned (OpenSpec.upto foldTwiceSpec)

end Rows
end Go.Proofs.YtmmghgfkpndokaaDoor
