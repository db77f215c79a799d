/-
  NARROWER THAN 'FOR EVERY INPUT', by the rows' own cells (each row's printed sentence says how): SeqsBoth: laid · SeqsOne: laid · SeqsOf: laid · SeqsMatch: laid · SeqsHas: laid · SeqsCounts: laid · SeqsRise: laid · SetUnions: laid.
  DERIVED. THE GIVEN ROWS OF THIS SEAT. 8 by the template 'for every input the law returns true; each argument reads behind the call as it read before'; 0 by the template 'total and deterministic' (their statements: YtgaalkcociifmaaDoorTotals.lean).
  GIVEN WITH THE SEED: the statements are not yours to turn. If you find one false, say at which input.
  Laid BY PROGRAM, IN A SANDBOX (cutbox-rows.mjs): the forced cells as the released guide's own fill.sh prints them over the translation b350154aa4547166… (all of the seat's roots in one cut). By AI agents, Wed Nov 11 2026. No macro, syntax, notation, axiom, sorry.
-/
import Derived.Test.YtgaalkcociifmaaDoorChecked
import GoSem.Claim
import GoSem.ClaimJoined
import GoSem.ClaimMapViews
import Derived.JoinedTies
import Derived.KernelRfl
namespace Go.Proofs.YtgaalkcociifmaaDoor
/- THE CELL 'sum', in the pinned program and in every row, IS THE sha256 OF THE DUMP (.gsa) THAT YtgaalkcociifmaaDoorProg.lean LOADS. Nothing in Lean hashes anything: it is a label: what it is worth is what the hold of that sum in a sandbox is worth. -/
noncomputable def Tryd.pinned : Pinned := { name := "ytgaalkcociifmaadoor", sum := "b350154aa454716623b6f62785354041b5a1f9b70d9b3418e990b483393a269a", checked := Tryd.checked }
namespace Rows
def none {H : Type} : Left H := { results := [], args := [] }

/- WHAT THE LISTED PACKAGE-LEVEL VARIABLES READ AS WHEN THE CALL BEGINS. Each datum BY PROGRAM (the guide's laid-datum.mjs) off the statement by which the dump's own 'gosem.cut.vars' lays the variable. In a bare row this is a premise. The card (YtgaalkcociifmaaDoorCards.lean) ties it to the program's text. -/
def laid_glyphcutter_set_areas {H : Type} : DataW H := .agg [.agg [.lit (.int .i64 0), .lit (.int .i64 55295)], .agg [.lit (.int .i64 57344), .lit (.int .i64 1114111)]]
def laid_glyphcutter_seqs_lengths {H : Type} : DataW H := .agg [.agg [.lit (.int .i64 0), .lit (.int .i64 127)], .agg [.lit (.int .i64 128), .lit (.int .i64 2047)], .agg [.lit (.int .i64 2048), .lit (.int .i64 65535)], .agg [.lit (.int .i64 65536), .lit (.int .i64 1114111)]]

/-- 'glyphcutterlaw03.SeqsBoth': WHATEVER THE INPUT: true; the input reads as it did. -/
def seqsBothSpec : ChangeSpec := { name := "seqsBoth", fn := fun _ => fun
  | [d1, d2] => { results := [.lit (.bool true)], args := [d1, d2] }
  | _ => none }
def seqsBothRow : OpenClaim := { program := "ytgaalkcociifmaadoor", sum := "b350154aa454716623b6f62785354041b5a1f9b70d9b3418e990b483393a269a", func := "glyphcutter/glyphcutterlaw03.SeqsBoth", spec := "seqsBoth", unfollowed := true, recurses := true, named := ["glyphcutter/seqs.lengths", "glyphcutter/set.areas"], apart := false, laid := [("glyphcutter/set.areas", laid_glyphcutter_set_areas), ("glyphcutter/seqs.lengths", laid_glyphcutter_seqs_lengths)] }
def SeqsBothSaid : Prop := seqsBothRow.holds Tryd.pinned (OpenSpec.ofChange seqsBothSpec)

/-- ITS FALSE NEIGHBOUR: 'it returns false'. Refute it at one input. -/
def seqsBothWrong : ChangeSpec := { name := "seqsBoth", fn := fun _ => fun
  | [d1, d2] => { results := [.lit (.bool false)], args := [d1, d2] }
  | _ => none }
def SeqsBothWrongFalsely : Prop := seqsBothRow.holds Tryd.pinned (OpenSpec.ofChange seqsBothWrong)

/-- 'glyphcutterlaw03.SeqsOne': WHATEVER THE INPUT: true; the input reads as it did. -/
def seqsOneSpec : ChangeSpec := { name := "seqsOne", fn := fun _ => fun
  | [d] => { results := [.lit (.bool true)], args := [d] }
  | _ => none }
def seqsOneRow : OpenClaim := { program := "ytgaalkcociifmaadoor", sum := "b350154aa454716623b6f62785354041b5a1f9b70d9b3418e990b483393a269a", func := "glyphcutter/glyphcutterlaw03.SeqsOne", spec := "seqsOne", unfollowed := true, recurses := true, named := ["glyphcutter/seqs.lengths", "glyphcutter/set.areas"], apart := false, laid := [("glyphcutter/set.areas", laid_glyphcutter_set_areas), ("glyphcutter/seqs.lengths", laid_glyphcutter_seqs_lengths)] }
def SeqsOneSaid : Prop := seqsOneRow.holds Tryd.pinned (OpenSpec.ofChange seqsOneSpec)

/-- ITS FALSE NEIGHBOUR: 'it returns false'. Refute it at one input. -/
def seqsOneWrong : ChangeSpec := { name := "seqsOne", fn := fun _ => fun
  | [d] => { results := [.lit (.bool false)], args := [d] }
  | _ => none }
def SeqsOneWrongFalsely : Prop := seqsOneRow.holds Tryd.pinned (OpenSpec.ofChange seqsOneWrong)

/-- 'glyphcutterlaw03.SeqsOf': WHATEVER THE INPUT: true; the input reads as it did. -/
def seqsOfSpec : ChangeSpec := { name := "seqsOf", fn := fun _ => fun
  | [d1, d2] => { results := [.lit (.bool true)], args := [d1, d2] }
  | _ => none }
def seqsOfRow : OpenClaim := { program := "ytgaalkcociifmaadoor", sum := "b350154aa454716623b6f62785354041b5a1f9b70d9b3418e990b483393a269a", func := "glyphcutter/glyphcutterlaw03.SeqsOf", spec := "seqsOf", unfollowed := true, recurses := true, named := ["glyphcutter/seqs.lengths", "glyphcutter/set.areas"], apart := false, laid := [("glyphcutter/set.areas", laid_glyphcutter_set_areas), ("glyphcutter/seqs.lengths", laid_glyphcutter_seqs_lengths)] }
def SeqsOfSaid : Prop := seqsOfRow.holds Tryd.pinned (OpenSpec.ofChange seqsOfSpec)

/-- ITS FALSE NEIGHBOUR: 'it returns false'. Refute it at one input. -/
def seqsOfWrong : ChangeSpec := { name := "seqsOf", fn := fun _ => fun
  | [d1, d2] => { results := [.lit (.bool false)], args := [d1, d2] }
  | _ => none }
def SeqsOfWrongFalsely : Prop := seqsOfRow.holds Tryd.pinned (OpenSpec.ofChange seqsOfWrong)

/-- 'glyphcutterlaw03.SeqsMatch': WHATEVER THE INPUT: true; the input reads as it did. -/
def seqsMatchSpec : ChangeSpec := { name := "seqsMatch", fn := fun _ => fun
  | [d1, d2] => { results := [.lit (.bool true)], args := [d1, d2] }
  | _ => none }
def seqsMatchRow : OpenClaim := { program := "ytgaalkcociifmaadoor", sum := "b350154aa454716623b6f62785354041b5a1f9b70d9b3418e990b483393a269a", func := "glyphcutter/glyphcutterlaw03.SeqsMatch", spec := "seqsMatch", unfollowed := true, recurses := true, named := ["glyphcutter/seqs.lengths", "glyphcutter/set.areas"], apart := false, laid := [("glyphcutter/set.areas", laid_glyphcutter_set_areas), ("glyphcutter/seqs.lengths", laid_glyphcutter_seqs_lengths)] }
def SeqsMatchSaid : Prop := seqsMatchRow.holds Tryd.pinned (OpenSpec.ofChange seqsMatchSpec)

/-- ITS FALSE NEIGHBOUR: 'it returns false'. Refute it at one input. -/
def seqsMatchWrong : ChangeSpec := { name := "seqsMatch", fn := fun _ => fun
  | [d1, d2] => { results := [.lit (.bool false)], args := [d1, d2] }
  | _ => none }
def SeqsMatchWrongFalsely : Prop := seqsMatchRow.holds Tryd.pinned (OpenSpec.ofChange seqsMatchWrong)

/-- 'glyphcutterlaw03.SeqsHas': WHATEVER THE INPUT: true; the input reads as it did. -/
def seqsHasSpec : ChangeSpec := { name := "seqsHas", fn := fun _ => fun
  | [d1, d2, d3] => { results := [.lit (.bool true)], args := [d1, d2, d3] }
  | _ => none }
def seqsHasRow : OpenClaim := { program := "ytgaalkcociifmaadoor", sum := "b350154aa454716623b6f62785354041b5a1f9b70d9b3418e990b483393a269a", func := "glyphcutter/glyphcutterlaw03.SeqsHas", spec := "seqsHas", unfollowed := true, recurses := true, named := ["glyphcutter/seqs.lengths", "glyphcutter/set.areas"], apart := false, laid := [("glyphcutter/set.areas", laid_glyphcutter_set_areas), ("glyphcutter/seqs.lengths", laid_glyphcutter_seqs_lengths)] }
def SeqsHasSaid : Prop := seqsHasRow.holds Tryd.pinned (OpenSpec.ofChange seqsHasSpec)

/-- ITS FALSE NEIGHBOUR: 'it returns false'. Refute it at one input. -/
def seqsHasWrong : ChangeSpec := { name := "seqsHas", fn := fun _ => fun
  | [d1, d2, d3] => { results := [.lit (.bool false)], args := [d1, d2, d3] }
  | _ => none }
def SeqsHasWrongFalsely : Prop := seqsHasRow.holds Tryd.pinned (OpenSpec.ofChange seqsHasWrong)

/-- 'glyphcutterlaw03.SeqsCounts': WHATEVER THE INPUT: true; the input reads as it did. -/
def seqsCountsSpec : ChangeSpec := { name := "seqsCounts", fn := fun _ => fun
  | [d1, d2] => { results := [.lit (.bool true)], args := [d1, d2] }
  | _ => none }
def seqsCountsRow : OpenClaim := { program := "ytgaalkcociifmaadoor", sum := "b350154aa454716623b6f62785354041b5a1f9b70d9b3418e990b483393a269a", func := "glyphcutter/glyphcutterlaw03.SeqsCounts", spec := "seqsCounts", unfollowed := true, recurses := true, named := ["glyphcutter/seqs.lengths", "glyphcutter/set.areas"], apart := false, laid := [("glyphcutter/set.areas", laid_glyphcutter_set_areas), ("glyphcutter/seqs.lengths", laid_glyphcutter_seqs_lengths)] }
def SeqsCountsSaid : Prop := seqsCountsRow.holds Tryd.pinned (OpenSpec.ofChange seqsCountsSpec)

/-- ITS FALSE NEIGHBOUR: 'it returns false'. Refute it at one input. -/
def seqsCountsWrong : ChangeSpec := { name := "seqsCounts", fn := fun _ => fun
  | [d1, d2] => { results := [.lit (.bool false)], args := [d1, d2] }
  | _ => none }
def SeqsCountsWrongFalsely : Prop := seqsCountsRow.holds Tryd.pinned (OpenSpec.ofChange seqsCountsWrong)

/-- 'glyphcutterlaw03.SeqsRise': WHATEVER THE INPUT: true; the input reads as it did. -/
def seqsRiseSpec : ChangeSpec := { name := "seqsRise", fn := fun _ => fun
  | [d1, d2] => { results := [.lit (.bool true)], args := [d1, d2] }
  | _ => none }
def seqsRiseRow : OpenClaim := { program := "ytgaalkcociifmaadoor", sum := "b350154aa454716623b6f62785354041b5a1f9b70d9b3418e990b483393a269a", func := "glyphcutter/glyphcutterlaw03.SeqsRise", spec := "seqsRise", unfollowed := true, recurses := true, named := ["glyphcutter/seqs.lengths", "glyphcutter/set.areas"], apart := false, laid := [("glyphcutter/set.areas", laid_glyphcutter_set_areas), ("glyphcutter/seqs.lengths", laid_glyphcutter_seqs_lengths)] }
def SeqsRiseSaid : Prop := seqsRiseRow.holds Tryd.pinned (OpenSpec.ofChange seqsRiseSpec)

/-- ITS FALSE NEIGHBOUR: 'it returns false'. Refute it at one input. -/
def seqsRiseWrong : ChangeSpec := { name := "seqsRise", fn := fun _ => fun
  | [d1, d2] => { results := [.lit (.bool false)], args := [d1, d2] }
  | _ => none }
def SeqsRiseWrongFalsely : Prop := seqsRiseRow.holds Tryd.pinned (OpenSpec.ofChange seqsRiseWrong)

/-- 'glyphcutterlaw01.SetUnions': WHATEVER THE INPUT: true; the input reads as it did. -/
def setUnionsSpec : ChangeSpec := { name := "setUnions", fn := fun _ => fun
  | [d1, d2, d3, d4] => { results := [.lit (.bool true)], args := [d1, d2, d3, d4] }
  | _ => none }
def setUnionsRow : OpenClaim := { program := "ytgaalkcociifmaadoor", sum := "b350154aa454716623b6f62785354041b5a1f9b70d9b3418e990b483393a269a", func := "glyphcutter/glyphcutterlaw01.SetUnions", spec := "setUnions", unfollowed := true, recurses := true, named := ["glyphcutter/set.areas"], apart := false, laid := [("glyphcutter/set.areas", laid_glyphcutter_set_areas)] }
def SetUnionsSaid : Prop := setUnionsRow.holds Tryd.pinned (OpenSpec.ofChange setUnionsSpec)

/-- ITS FALSE NEIGHBOUR: 'it returns false'. Refute it at one input. -/
def setUnionsWrong : ChangeSpec := { name := "setUnions", fn := fun _ => fun
  | [d1, d2, d3, d4] => { results := [.lit (.bool false)], args := [d1, d2, d3, d4] }
  | _ => none }
def SetUnionsWrongFalsely : Prop := setUnionsRow.holds Tryd.pinned (OpenSpec.ofChange setUnionsWrong)

/- THE SECOND FORM. 'bulk': how many values and letters a reading holds, each counted each time it is reached (what is shared counts as often as it is met; a slice's spare places count too). A statement '..UptoSaid' is the law's where the arguments, and the package variables that the reading takes, are together of bulk at most 1048576: NARROWER than '..Said'. Prove '..Said' where nothing that the law and all that it calls make is longer than what came in: it says more and counts as full. Else prove '..UptoSaid'. A law counts once. -/
mutual
def uptoBulk {H : Type} : DataW H → Nat
  | .lit (.string bytes) => bytes.length + 1
  | .lit _ => 1
  | .nil => 1
  | .ptr d => uptoBulk d + 1
  | .slice elems spare => uptoBulkAll elems + uptoBulkAll spare + 1
  | .agg parts => uptoBulkAll parts + 1
  | .iface _ d => uptoBulk d + 1
  | .map entries => uptoBulkEntries entries + 1
  | .held _ => 1
def uptoBulkAll {H : Type} : List (DataW H) → Nat
  | [] => 0
  | d :: r => uptoBulk d + uptoBulkAll r
def uptoBulkEntries {H : Type} : List (Lit × DataW H) → Nat
  | [] => 0
  | x :: r => uptoBulkEntry x + uptoBulkEntries r
def uptoBulkEntry {H : Type} : Lit × DataW H → Nat
  | (.string bytes, d) => bytes.length + uptoBulk d + 1
  | (_, d) => uptoBulk d + 1
 end
def uptoSmall : (H : Type) → List (DataW H) → Bool := fun _ ds => decide (uptoBulkAll ds ≤ 1048576)
def OpenSpec.upto (s : _root_.Go.ChangeSpec) : _root_.Go.OpenSpec := { _root_.Go.OpenSpec.ofChange s with cond := some uptoSmall }

/-- 'glyphcutterlaw03.SeqsBoth', WHERE WHAT IT READS IS OF BULK AT MOST 1048576: true; the input reads as it did. -/
def seqsBothUptoRow : OpenClaim := { program := "ytgaalkcociifmaadoor", sum := "b350154aa454716623b6f62785354041b5a1f9b70d9b3418e990b483393a269a", func := "glyphcutter/glyphcutterlaw03.SeqsBoth", spec := "seqsBoth", unfollowed := true, recurses := true, named := ["glyphcutter/seqs.lengths", "glyphcutter/set.areas"], apart := false, laid := [("glyphcutter/set.areas", laid_glyphcutter_set_areas), ("glyphcutter/seqs.lengths", laid_glyphcutter_seqs_lengths)], narrowed := true }
def SeqsBothUptoSaid : Prop := seqsBothUptoRow.holds Tryd.pinned (OpenSpec.upto seqsBothSpec)

/-- 'glyphcutterlaw03.SeqsOne', WHERE WHAT IT READS IS OF BULK AT MOST 1048576: true; the input reads as it did. -/
def seqsOneUptoRow : OpenClaim := { program := "ytgaalkcociifmaadoor", sum := "b350154aa454716623b6f62785354041b5a1f9b70d9b3418e990b483393a269a", func := "glyphcutter/glyphcutterlaw03.SeqsOne", spec := "seqsOne", unfollowed := true, recurses := true, named := ["glyphcutter/seqs.lengths", "glyphcutter/set.areas"], apart := false, laid := [("glyphcutter/set.areas", laid_glyphcutter_set_areas), ("glyphcutter/seqs.lengths", laid_glyphcutter_seqs_lengths)], narrowed := true }
def SeqsOneUptoSaid : Prop := seqsOneUptoRow.holds Tryd.pinned (OpenSpec.upto seqsOneSpec)

/-- 'glyphcutterlaw03.SeqsOf', WHERE WHAT IT READS IS OF BULK AT MOST 1048576: true; the input reads as it did. -/
def seqsOfUptoRow : OpenClaim := { program := "ytgaalkcociifmaadoor", sum := "b350154aa454716623b6f62785354041b5a1f9b70d9b3418e990b483393a269a", func := "glyphcutter/glyphcutterlaw03.SeqsOf", spec := "seqsOf", unfollowed := true, recurses := true, named := ["glyphcutter/seqs.lengths", "glyphcutter/set.areas"], apart := false, laid := [("glyphcutter/set.areas", laid_glyphcutter_set_areas), ("glyphcutter/seqs.lengths", laid_glyphcutter_seqs_lengths)], narrowed := true }
def SeqsOfUptoSaid : Prop := seqsOfUptoRow.holds Tryd.pinned (OpenSpec.upto seqsOfSpec)

/-- 'glyphcutterlaw03.SeqsMatch', WHERE WHAT IT READS IS OF BULK AT MOST 1048576: true; the input reads as it did. -/
def seqsMatchUptoRow : OpenClaim := { program := "ytgaalkcociifmaadoor", sum := "b350154aa454716623b6f62785354041b5a1f9b70d9b3418e990b483393a269a", func := "glyphcutter/glyphcutterlaw03.SeqsMatch", spec := "seqsMatch", unfollowed := true, recurses := true, named := ["glyphcutter/seqs.lengths", "glyphcutter/set.areas"], apart := false, laid := [("glyphcutter/set.areas", laid_glyphcutter_set_areas), ("glyphcutter/seqs.lengths", laid_glyphcutter_seqs_lengths)], narrowed := true }
def SeqsMatchUptoSaid : Prop := seqsMatchUptoRow.holds Tryd.pinned (OpenSpec.upto seqsMatchSpec)

/-- 'glyphcutterlaw03.SeqsHas', WHERE WHAT IT READS IS OF BULK AT MOST 1048576: true; the input reads as it did. -/
def seqsHasUptoRow : OpenClaim := { program := "ytgaalkcociifmaadoor", sum := "b350154aa454716623b6f62785354041b5a1f9b70d9b3418e990b483393a269a", func := "glyphcutter/glyphcutterlaw03.SeqsHas", spec := "seqsHas", unfollowed := true, recurses := true, named := ["glyphcutter/seqs.lengths", "glyphcutter/set.areas"], apart := false, laid := [("glyphcutter/set.areas", laid_glyphcutter_set_areas), ("glyphcutter/seqs.lengths", laid_glyphcutter_seqs_lengths)], narrowed := true }
def SeqsHasUptoSaid : Prop := seqsHasUptoRow.holds Tryd.pinned (OpenSpec.upto seqsHasSpec)

/-- 'glyphcutterlaw03.SeqsCounts', WHERE WHAT IT READS IS OF BULK AT MOST 1048576: true; the input reads as it did. -/
def seqsCountsUptoRow : OpenClaim := { program := "ytgaalkcociifmaadoor", sum := "b350154aa454716623b6f62785354041b5a1f9b70d9b3418e990b483393a269a", func := "glyphcutter/glyphcutterlaw03.SeqsCounts", spec := "seqsCounts", unfollowed := true, recurses := true, named := ["glyphcutter/seqs.lengths", "glyphcutter/set.areas"], apart := false, laid := [("glyphcutter/set.areas", laid_glyphcutter_set_areas), ("glyphcutter/seqs.lengths", laid_glyphcutter_seqs_lengths)], narrowed := true }
def SeqsCountsUptoSaid : Prop := seqsCountsUptoRow.holds Tryd.pinned (OpenSpec.upto seqsCountsSpec)

/-- 'glyphcutterlaw03.SeqsRise', WHERE WHAT IT READS IS OF BULK AT MOST 1048576: true; the input reads as it did. -/
def seqsRiseUptoRow : OpenClaim := { program := "ytgaalkcociifmaadoor", sum := "b350154aa454716623b6f62785354041b5a1f9b70d9b3418e990b483393a269a", func := "glyphcutter/glyphcutterlaw03.SeqsRise", spec := "seqsRise", unfollowed := true, recurses := true, named := ["glyphcutter/seqs.lengths", "glyphcutter/set.areas"], apart := false, laid := [("glyphcutter/set.areas", laid_glyphcutter_set_areas), ("glyphcutter/seqs.lengths", laid_glyphcutter_seqs_lengths)], narrowed := true }
def SeqsRiseUptoSaid : Prop := seqsRiseUptoRow.holds Tryd.pinned (OpenSpec.upto seqsRiseSpec)

/-- 'glyphcutterlaw01.SetUnions', WHERE WHAT IT READS IS OF BULK AT MOST 1048576: true; the input reads as it did. -/
def setUnionsUptoRow : OpenClaim := { program := "ytgaalkcociifmaadoor", sum := "b350154aa454716623b6f62785354041b5a1f9b70d9b3418e990b483393a269a", func := "glyphcutter/glyphcutterlaw01.SetUnions", spec := "setUnions", unfollowed := true, recurses := true, named := ["glyphcutter/set.areas"], apart := false, laid := [("glyphcutter/set.areas", laid_glyphcutter_set_areas)], narrowed := true }
def SetUnionsUptoSaid : Prop := setUnionsUptoRow.holds Tryd.pinned (OpenSpec.upto setUnionsSpec)

end Rows
end Go.Proofs.YtgaalkcociifmaaDoor
