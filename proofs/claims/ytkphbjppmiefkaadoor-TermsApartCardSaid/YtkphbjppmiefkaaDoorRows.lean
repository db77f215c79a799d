/-
  NARROWER THAN 'FOR EVERY INPUT', by the rows' own cells (each row's printed sentence says how): TermsOne: laid · TermsOf: laid · TermsWhich: laid · TermsApart: laid · TermsMake: laid · TermsFew: laid.
  DERIVED. THE GIVEN ROWS OF THIS SEAT. 6 by the template 'for every input the law returns true; each argument reads behind the call as it read before'; 0 by the template 'total and deterministic' (their statements: YtkphbjppmiefkaaDoorTotals.lean).
  GIVEN WITH THE SEED: the statements are not yours to turn. If you find one false, say at which input.
  Laid BY PROGRAM, IN A SANDBOX (cutbox-rows.mjs): the forced cells as the released guide's own fill.sh prints them over the translation 0c211144c41ca156… (all of the seat's roots in one cut). By AI agents, Wed Nov 11 2026. No macro, syntax, notation, axiom, sorry.
-/
import Derived.Test.YtkphbjppmiefkaaDoorChecked
import GoSem.Claim
import GoSem.ClaimJoined
import GoSem.ClaimMapViews
import Derived.JoinedTies
import Derived.KernelRfl
namespace Go.Proofs.YtkphbjppmiefkaaDoor
/- THE CELL 'sum', in the pinned program and in every row, IS THE sha256 OF THE DUMP (.gsa) THAT YtkphbjppmiefkaaDoorProg.lean LOADS. Nothing in Lean hashes anything: it is a label: what it is worth is what the hold of that sum in a sandbox is worth. -/
noncomputable def Tryd.pinned : Pinned := { name := "ytkphbjppmiefkaadoor", sum := "0c211144c41ca1563c6a1888a4480e30d04728db7ec434471059295ef23e1ed8", checked := Tryd.checked }
namespace Rows
def none {H : Type} : Left H := { results := [], args := [] }

/- WHAT THE LISTED PACKAGE-LEVEL VARIABLES READ AS WHEN THE CALL BEGINS. Each datum BY PROGRAM (the guide's laid-datum.mjs) off the statement by which the dump's own 'gosem.cut.vars' lays the variable. In a bare row this is a premise. The card (YtkphbjppmiefkaaDoorCards.lean) ties it to the program's text. -/
def laid_glyphcutter_set_areas {H : Type} : DataW H := .agg [.agg [.lit (.int .i64 0), .lit (.int .i64 55295)], .agg [.lit (.int .i64 57344), .lit (.int .i64 1114111)]]

/-- 'glyphcutterlaw10.TermsOne': WHATEVER THE INPUT: true; the input reads as it did. -/
def termsOneSpec : ChangeSpec := { name := "termsOne", fn := fun _ => fun
  | [d] => { results := [.lit (.bool true)], args := [d] }
  | _ => none }
def termsOneRow : OpenClaim := { program := "ytkphbjppmiefkaadoor", sum := "0c211144c41ca1563c6a1888a4480e30d04728db7ec434471059295ef23e1ed8", func := "glyphcutter/glyphcutterlaw10.TermsOne", spec := "termsOne", unfollowed := true, recurses := true, named := ["glyphcutter/set.areas"], plainKeys := false, apart := false, laid := [("glyphcutter/set.areas", laid_glyphcutter_set_areas)] }
def TermsOneSaid : Prop := termsOneRow.holds Tryd.pinned (OpenSpec.ofChange termsOneSpec)

/-- ITS FALSE NEIGHBOUR: 'it returns false'. Refute it at one input. -/
def termsOneWrong : ChangeSpec := { name := "termsOne", fn := fun _ => fun
  | [d] => { results := [.lit (.bool false)], args := [d] }
  | _ => none }
def TermsOneWrongFalsely : Prop := termsOneRow.holds Tryd.pinned (OpenSpec.ofChange termsOneWrong)

/-- 'glyphcutterlaw10.TermsOf': WHATEVER THE INPUT: true; the input reads as it did. -/
def termsOfSpec : ChangeSpec := { name := "termsOf", fn := fun _ => fun
  | [d1, d2] => { results := [.lit (.bool true)], args := [d1, d2] }
  | _ => none }
def termsOfRow : OpenClaim := { program := "ytkphbjppmiefkaadoor", sum := "0c211144c41ca1563c6a1888a4480e30d04728db7ec434471059295ef23e1ed8", func := "glyphcutter/glyphcutterlaw10.TermsOf", spec := "termsOf", unfollowed := true, recurses := true, named := ["glyphcutter/set.areas"], plainKeys := false, apart := false, laid := [("glyphcutter/set.areas", laid_glyphcutter_set_areas)] }
def TermsOfSaid : Prop := termsOfRow.holds Tryd.pinned (OpenSpec.ofChange termsOfSpec)

/-- ITS FALSE NEIGHBOUR: 'it returns false'. Refute it at one input. -/
def termsOfWrong : ChangeSpec := { name := "termsOf", fn := fun _ => fun
  | [d1, d2] => { results := [.lit (.bool false)], args := [d1, d2] }
  | _ => none }
def TermsOfWrongFalsely : Prop := termsOfRow.holds Tryd.pinned (OpenSpec.ofChange termsOfWrong)

/-- 'glyphcutterlaw10.TermsWhich': WHATEVER THE INPUT: true; the input reads as it did. -/
def termsWhichSpec : ChangeSpec := { name := "termsWhich", fn := fun _ => fun
  | [d1, d2, d3, d4, d5] => { results := [.lit (.bool true)], args := [d1, d2, d3, d4, d5] }
  | _ => none }
def termsWhichRow : OpenClaim := { program := "ytkphbjppmiefkaadoor", sum := "0c211144c41ca1563c6a1888a4480e30d04728db7ec434471059295ef23e1ed8", func := "glyphcutter/glyphcutterlaw10.TermsWhich", spec := "termsWhich", unfollowed := true, recurses := true, named := ["glyphcutter/set.areas"], plainKeys := false, apart := false, laid := [("glyphcutter/set.areas", laid_glyphcutter_set_areas)] }
def TermsWhichSaid : Prop := termsWhichRow.holds Tryd.pinned (OpenSpec.ofChange termsWhichSpec)

/-- ITS FALSE NEIGHBOUR: 'it returns false'. Refute it at one input. -/
def termsWhichWrong : ChangeSpec := { name := "termsWhich", fn := fun _ => fun
  | [d1, d2, d3, d4, d5] => { results := [.lit (.bool false)], args := [d1, d2, d3, d4, d5] }
  | _ => none }
def TermsWhichWrongFalsely : Prop := termsWhichRow.holds Tryd.pinned (OpenSpec.ofChange termsWhichWrong)

/-- 'glyphcutterlaw10.TermsApart': WHATEVER THE INPUT: true; the input reads as it did. -/
def termsApartSpec : ChangeSpec := { name := "termsApart", fn := fun _ => fun
  | [d] => { results := [.lit (.bool true)], args := [d] }
  | _ => none }
def termsApartRow : OpenClaim := { program := "ytkphbjppmiefkaadoor", sum := "0c211144c41ca1563c6a1888a4480e30d04728db7ec434471059295ef23e1ed8", func := "glyphcutter/glyphcutterlaw10.TermsApart", spec := "termsApart", unfollowed := true, recurses := true, named := ["glyphcutter/set.areas"], plainKeys := false, apart := false, laid := [("glyphcutter/set.areas", laid_glyphcutter_set_areas)] }
def TermsApartSaid : Prop := termsApartRow.holds Tryd.pinned (OpenSpec.ofChange termsApartSpec)

/-- ITS FALSE NEIGHBOUR: 'it returns false'. Refute it at one input. -/
def termsApartWrong : ChangeSpec := { name := "termsApart", fn := fun _ => fun
  | [d] => { results := [.lit (.bool false)], args := [d] }
  | _ => none }
def TermsApartWrongFalsely : Prop := termsApartRow.holds Tryd.pinned (OpenSpec.ofChange termsApartWrong)

/-- 'glyphcutterlaw10.TermsMake': WHATEVER THE INPUT: true; the input reads as it did. -/
def termsMakeSpec : ChangeSpec := { name := "termsMake", fn := fun _ => fun
  | [d1, d2] => { results := [.lit (.bool true)], args := [d1, d2] }
  | _ => none }
def termsMakeRow : OpenClaim := { program := "ytkphbjppmiefkaadoor", sum := "0c211144c41ca1563c6a1888a4480e30d04728db7ec434471059295ef23e1ed8", func := "glyphcutter/glyphcutterlaw10.TermsMake", spec := "termsMake", unfollowed := true, recurses := true, named := ["glyphcutter/set.areas"], plainKeys := false, apart := false, laid := [("glyphcutter/set.areas", laid_glyphcutter_set_areas)] }
def TermsMakeSaid : Prop := termsMakeRow.holds Tryd.pinned (OpenSpec.ofChange termsMakeSpec)

/-- ITS FALSE NEIGHBOUR: 'it returns false'. Refute it at one input. -/
def termsMakeWrong : ChangeSpec := { name := "termsMake", fn := fun _ => fun
  | [d1, d2] => { results := [.lit (.bool false)], args := [d1, d2] }
  | _ => none }
def TermsMakeWrongFalsely : Prop := termsMakeRow.holds Tryd.pinned (OpenSpec.ofChange termsMakeWrong)

/-- 'glyphcutterlaw10.TermsFew': WHATEVER THE INPUT: true; the input reads as it did. -/
def termsFewSpec : ChangeSpec := { name := "termsFew", fn := fun _ => fun
  | [d] => { results := [.lit (.bool true)], args := [d] }
  | _ => none }
def termsFewRow : OpenClaim := { program := "ytkphbjppmiefkaadoor", sum := "0c211144c41ca1563c6a1888a4480e30d04728db7ec434471059295ef23e1ed8", func := "glyphcutter/glyphcutterlaw10.TermsFew", spec := "termsFew", unfollowed := true, recurses := true, named := ["glyphcutter/set.areas"], plainKeys := false, apart := false, laid := [("glyphcutter/set.areas", laid_glyphcutter_set_areas)] }
def TermsFewSaid : Prop := termsFewRow.holds Tryd.pinned (OpenSpec.ofChange termsFewSpec)

/-- ITS FALSE NEIGHBOUR: 'it returns false'. Refute it at one input. -/
def termsFewWrong : ChangeSpec := { name := "termsFew", fn := fun _ => fun
  | [d] => { results := [.lit (.bool false)], args := [d] }
  | _ => none }
def TermsFewWrongFalsely : Prop := termsFewRow.holds Tryd.pinned (OpenSpec.ofChange termsFewWrong)

/- THE SECOND FORM. 'bulk': how many values and letters a reading holds, each counted each time it is reached (what is shared counts as often as it is met; a slice's spare places count too). A statement '..UptoSaid' is the law's where the arguments, and the package variables that the reading takes, are together of bulk at most 1048576: NARROWER than '..Said'. Prove '..Said' where nothing that the law and all that it calls make is longer than what came in: it says more and counts as full. Else prove '..UptoSaid'. A law counts once. -/
mutual
def uptoBulk {H : Type} : DataW H → Nat
  | .lit (.string bytes) => bytes.length + 1
  | .lit _ => 1
  | .nil => 1
  | .ptr d => uptoBulk d + 1
  | .slice elems spare => uptoBulkAll elems + uptoBulkAll spare + 1
  | .agg parts => uptoBulkAll parts + 1
  | .iface _ d => uptoBulk d + 1
  | .map entries => uptoBulkEntries entries + 1
  | .held _ => 1
def uptoBulkAll {H : Type} : List (DataW H) → Nat
  | [] => 0
  | d :: r => uptoBulk d + uptoBulkAll r
def uptoBulkEntries {H : Type} : List (Lit × DataW H) → Nat
  | [] => 0
  | x :: r => uptoBulkEntry x + uptoBulkEntries r
def uptoBulkEntry {H : Type} : Lit × DataW H → Nat
  | (.string bytes, d) => bytes.length + uptoBulk d + 1
  | (_, d) => uptoBulk d + 1
 end
def uptoSmall : (H : Type) → List (DataW H) → Bool := fun _ ds => decide (uptoBulkAll ds ≤ 1048576)
def OpenSpec.upto (s : _root_.Go.ChangeSpec) : _root_.Go.OpenSpec := { _root_.Go.OpenSpec.ofChange s with cond := some uptoSmall }

/-- 'glyphcutterlaw10.TermsOne', WHERE WHAT IT READS IS OF BULK AT MOST 1048576: true; the input reads as it did. -/
def termsOneUptoRow : OpenClaim := { program := "ytkphbjppmiefkaadoor", sum := "0c211144c41ca1563c6a1888a4480e30d04728db7ec434471059295ef23e1ed8", func := "glyphcutter/glyphcutterlaw10.TermsOne", spec := "termsOne", unfollowed := true, recurses := true, named := ["glyphcutter/set.areas"], plainKeys := false, apart := false, laid := [("glyphcutter/set.areas", laid_glyphcutter_set_areas)], narrowed := true }
def TermsOneUptoSaid : Prop := termsOneUptoRow.holds Tryd.pinned (OpenSpec.upto termsOneSpec)

/-- 'glyphcutterlaw10.TermsOf', WHERE WHAT IT READS IS OF BULK AT MOST 1048576: true; the input reads as it did. -/
def termsOfUptoRow : OpenClaim := { program := "ytkphbjppmiefkaadoor", sum := "0c211144c41ca1563c6a1888a4480e30d04728db7ec434471059295ef23e1ed8", func := "glyphcutter/glyphcutterlaw10.TermsOf", spec := "termsOf", unfollowed := true, recurses := true, named := ["glyphcutter/set.areas"], plainKeys := false, apart := false, laid := [("glyphcutter/set.areas", laid_glyphcutter_set_areas)], narrowed := true }
def TermsOfUptoSaid : Prop := termsOfUptoRow.holds Tryd.pinned (OpenSpec.upto termsOfSpec)

/-- 'glyphcutterlaw10.TermsWhich', WHERE WHAT IT READS IS OF BULK AT MOST 1048576: true; the input reads as it did. -/
def termsWhichUptoRow : OpenClaim := { program := "ytkphbjppmiefkaadoor", sum := "0c211144c41ca1563c6a1888a4480e30d04728db7ec434471059295ef23e1ed8", func := "glyphcutter/glyphcutterlaw10.TermsWhich", spec := "termsWhich", unfollowed := true, recurses := true, named := ["glyphcutter/set.areas"], plainKeys := false, apart := false, laid := [("glyphcutter/set.areas", laid_glyphcutter_set_areas)], narrowed := true }
def TermsWhichUptoSaid : Prop := termsWhichUptoRow.holds Tryd.pinned (OpenSpec.upto termsWhichSpec)

/-- 'glyphcutterlaw10.TermsApart', WHERE WHAT IT READS IS OF BULK AT MOST 1048576: true; the input reads as it did. -/
def termsApartUptoRow : OpenClaim := { program := "ytkphbjppmiefkaadoor", sum := "0c211144c41ca1563c6a1888a4480e30d04728db7ec434471059295ef23e1ed8", func := "glyphcutter/glyphcutterlaw10.TermsApart", spec := "termsApart", unfollowed := true, recurses := true, named := ["glyphcutter/set.areas"], plainKeys := false, apart := false, laid := [("glyphcutter/set.areas", laid_glyphcutter_set_areas)], narrowed := true }
def TermsApartUptoSaid : Prop := termsApartUptoRow.holds Tryd.pinned (OpenSpec.upto termsApartSpec)

/-- 'glyphcutterlaw10.TermsMake', WHERE WHAT IT READS IS OF BULK AT MOST 1048576: true; the input reads as it did. -/
def termsMakeUptoRow : OpenClaim := { program := "ytkphbjppmiefkaadoor", sum := "0c211144c41ca1563c6a1888a4480e30d04728db7ec434471059295ef23e1ed8", func := "glyphcutter/glyphcutterlaw10.TermsMake", spec := "termsMake", unfollowed := true, recurses := true, named := ["glyphcutter/set.areas"], plainKeys := false, apart := false, laid := [("glyphcutter/set.areas", laid_glyphcutter_set_areas)], narrowed := true }
def TermsMakeUptoSaid : Prop := termsMakeUptoRow.holds Tryd.pinned (OpenSpec.upto termsMakeSpec)

/-- 'glyphcutterlaw10.TermsFew', WHERE WHAT IT READS IS OF BULK AT MOST 1048576: true; the input reads as it did. -/
def termsFewUptoRow : OpenClaim := { program := "ytkphbjppmiefkaadoor", sum := "0c211144c41ca1563c6a1888a4480e30d04728db7ec434471059295ef23e1ed8", func := "glyphcutter/glyphcutterlaw10.TermsFew", spec := "termsFew", unfollowed := true, recurses := true, named := ["glyphcutter/set.areas"], plainKeys := false, apart := false, laid := [("glyphcutter/set.areas", laid_glyphcutter_set_areas)], narrowed := true }
def TermsFewUptoSaid : Prop := termsFewUptoRow.holds Tryd.pinned (OpenSpec.upto termsFewSpec)

end Rows
end Go.Proofs.YtkphbjppmiefkaaDoor
