/-
  NARROWER THAN 'FOR EVERY INPUT', by the rows' own cells (each row's printed sentence says how): RxHex: laid · RxTimes: laid · RxPlain: laid · RxBrackets: laid · RxDeep: laid · RxFirst: laid.
  DERIVED. THE GIVEN ROWS OF THIS SEAT. 6 by the template 'for every input the law returns true; each argument reads behind the call as it read before'; 0 by the template 'total and deterministic' (their statements: YtahgljglleeloaaGreatDoorTotals.lean).
  GIVEN WITH THE SEED: the statements are not yours to turn. If you find one false, say at which input.
  Laid BY PROGRAM, IN A SANDBOX (cutbox-rows.mjs): the forced cells as the released guide's own fill.sh prints them over the translation 11bf767f64ef3a39… (all of the seat's roots in one cut). By AI agents, Wed Nov 11 2026. No macro, syntax, notation, axiom, sorry.
-/
import Derived.Test.YtahgljglleeloaaGreatDoorChecked
import GoSem.Claim
import GoSem.ClaimJoined
import GoSem.ClaimMapViews
import Derived.JoinedTies
import Derived.KernelRfl
namespace Go.Proofs.YtahgljglleeloaaGreatDoor
/- THE CELL 'sum', in the pinned program and in every row, IS THE sha256 OF THE DUMP (.gsa) THAT YtahgljglleeloaaGreatDoorProg.lean LOADS. Nothing in Lean hashes anything: it is a label: what it is worth is what the hold of that sum in a sandbox is worth. -/
noncomputable def Tryz.pinned : Pinned := { name := "ytahgljglleeloaagreatdoor", sum := "11bf767f64ef3a39796b7ccf8b62cb6f1d777315ee84529ea4861a7ee610fa4c", checked := Tryz.checked }
namespace Rows
def none {H : Type} : Left H := { results := [], args := [] }

/- WHAT THE LISTED PACKAGE-LEVEL VARIABLES READ AS WHEN THE CALL BEGINS. Each datum BY PROGRAM (the guide's laid-datum.mjs) off the statement by which the dump's own 'gosem.cut.vars' lays the variable. In a bare row this is a premise. The card (YtahgljglleeloaaGreatDoorCards.lean) ties it to the program's text. -/
def laid_math_bits_deBruijn32tab {H : Type} : DataW H := .agg [.lit (.int .u8 0), .lit (.int .u8 1), .lit (.int .u8 28), .lit (.int .u8 2), .lit (.int .u8 29), .lit (.int .u8 14), .lit (.int .u8 24), .lit (.int .u8 3), .lit (.int .u8 30), .lit (.int .u8 22), .lit (.int .u8 20), .lit (.int .u8 15), .lit (.int .u8 25), .lit (.int .u8 17), .lit (.int .u8 4), .lit (.int .u8 8), .lit (.int .u8 31), .lit (.int .u8 27), .lit (.int .u8 13), .lit (.int .u8 23), .lit (.int .u8 21), .lit (.int .u8 19), .lit (.int .u8 16), .lit (.int .u8 7), .lit (.int .u8 26), .lit (.int .u8 12), .lit (.int .u8 18), .lit (.int .u8 6), .lit (.int .u8 11), .lit (.int .u8 5), .lit (.int .u8 10), .lit (.int .u8 9)]
def laid_math_bits_deBruijn64tab {H : Type} : DataW H := .agg [.lit (.int .u8 0), .lit (.int .u8 1), .lit (.int .u8 56), .lit (.int .u8 2), .lit (.int .u8 57), .lit (.int .u8 49), .lit (.int .u8 28), .lit (.int .u8 3), .lit (.int .u8 61), .lit (.int .u8 58), .lit (.int .u8 42), .lit (.int .u8 50), .lit (.int .u8 38), .lit (.int .u8 29), .lit (.int .u8 17), .lit (.int .u8 4), .lit (.int .u8 62), .lit (.int .u8 47), .lit (.int .u8 59), .lit (.int .u8 36), .lit (.int .u8 45), .lit (.int .u8 43), .lit (.int .u8 51), .lit (.int .u8 22), .lit (.int .u8 53), .lit (.int .u8 39), .lit (.int .u8 33), .lit (.int .u8 30), .lit (.int .u8 24), .lit (.int .u8 18), .lit (.int .u8 12), .lit (.int .u8 5), .lit (.int .u8 63), .lit (.int .u8 55), .lit (.int .u8 48), .lit (.int .u8 27), .lit (.int .u8 60), .lit (.int .u8 41), .lit (.int .u8 37), .lit (.int .u8 16), .lit (.int .u8 46), .lit (.int .u8 35), .lit (.int .u8 44), .lit (.int .u8 21), .lit (.int .u8 52), .lit (.int .u8 32), .lit (.int .u8 23), .lit (.int .u8 11), .lit (.int .u8 54), .lit (.int .u8 26), .lit (.int .u8 40), .lit (.int .u8 15), .lit (.int .u8 34), .lit (.int .u8 20), .lit (.int .u8 31), .lit (.int .u8 10), .lit (.int .u8 25), .lit (.int .u8 14), .lit (.int .u8 19), .lit (.int .u8 9), .lit (.int .u8 13), .lit (.int .u8 8), .lit (.int .u8 7), .lit (.int .u8 6)]
def laid_internal_strconv_uint64pow10 {H : Type} : DataW H := .agg [.lit (.int .u64 1), .lit (.int .u64 10), .lit (.int .u64 100), .lit (.int .u64 1000), .lit (.int .u64 10000), .lit (.int .u64 100000), .lit (.int .u64 1000000), .lit (.int .u64 10000000), .lit (.int .u64 100000000), .lit (.int .u64 1000000000), .lit (.int .u64 10000000000), .lit (.int .u64 100000000000), .lit (.int .u64 1000000000000), .lit (.int .u64 10000000000000), .lit (.int .u64 100000000000000), .lit (.int .u64 1000000000000000), .lit (.int .u64 10000000000000000), .lit (.int .u64 100000000000000000), .lit (.int .u64 1000000000000000000), .lit (.int .u64 10000000000000000000)]
def laid_glyphcutter_set_areas {H : Type} : DataW H := .agg [.agg [.lit (.int .i64 0), .lit (.int .i64 55295)], .agg [.lit (.int .i64 57344), .lit (.int .i64 1114111)]]
def laid_glyphcutter_fold_runs {H : Type} : DataW H := .agg [.agg [.lit (.int .i64 65), .lit (.int .i64 90), .lit (.int .i64 97)], .agg [.lit (.int .i64 181), .lit (.int .i64 181), .lit (.int .i64 956)], .agg [.lit (.int .i64 192), .lit (.int .i64 214), .lit (.int .i64 224)], .agg [.lit (.int .i64 216), .lit (.int .i64 222), .lit (.int .i64 248)], .agg [.lit (.int .i64 913), .lit (.int .i64 929), .lit (.int .i64 945)], .agg [.lit (.int .i64 931), .lit (.int .i64 937), .lit (.int .i64 963)], .agg [.lit (.int .i64 962), .lit (.int .i64 962), .lit (.int .i64 963)], .agg [.lit (.int .i64 1024), .lit (.int .i64 1039), .lit (.int .i64 1104)], .agg [.lit (.int .i64 1040), .lit (.int .i64 1071), .lit (.int .i64 1072)], .agg [.lit (.int .i64 7838), .lit (.int .i64 7838), .lit (.int .i64 223)], .agg [.lit (.int .i64 8486), .lit (.int .i64 8486), .lit (.int .i64 969)], .agg [.lit (.int .i64 8490), .lit (.int .i64 8490), .lit (.int .i64 107)], .agg [.lit (.int .i64 8491), .lit (.int .i64 8491), .lit (.int .i64 229)]]
def laid_strconv_ErrRange {H : Type} : DataW H := .iface "*errors.errorString" (.ptr (.agg [.lit (.string [118, 97, 108, 117, 101, 32, 111, 117, 116, 32, 111, 102, 32, 114, 97, 110, 103, 101])]))
def laid_strconv_ErrSyntax {H : Type} : DataW H := .iface "*errors.errorString" (.ptr (.agg [.lit (.string [105, 110, 118, 97, 108, 105, 100, 32, 115, 121, 110, 116, 97, 120])]))

/-- 'glyphcutterlaw06.RxHex': WHATEVER THE INPUT: true; the input reads as it did. -/
def rxHexSpec : ChangeSpec := { name := "rxHex", fn := fun _ => fun
  | [d1, d2, d3] => { results := [.lit (.bool true)], args := [d1, d2, d3] }
  | _ => none }
def rxHexRow : OpenClaim := { program := "ytahgljglleeloaagreatdoor", sum := "11bf767f64ef3a39796b7ccf8b62cb6f1d777315ee84529ea4861a7ee610fa4c", func := "glyphcutter/glyphcutterlaw06.RxHex", spec := "rxHex", inPlace := ["internal/bytealg.IndexByteString", "internal/bytealg.IndexString", "internal/abi.NoEscape"], unfollowed := true, recurses := true, named := ["glyphcutter/set.areas", "glyphcutter/fold.runs", "strconv.ErrSyntax", "strconv.ErrRange", "internal/strconv.uint64pow10", "math/bits.deBruijn32tab", "math/bits.deBruijn64tab", "internal/bytealg.MaxLen"], plainKeys := false, apart := false, laid := [("math/bits.deBruijn32tab", laid_math_bits_deBruijn32tab), ("math/bits.deBruijn64tab", laid_math_bits_deBruijn64tab), ("internal/strconv.uint64pow10", laid_internal_strconv_uint64pow10), ("glyphcutter/set.areas", laid_glyphcutter_set_areas), ("glyphcutter/fold.runs", laid_glyphcutter_fold_runs), ("strconv.ErrRange", laid_strconv_ErrRange), ("strconv.ErrSyntax", laid_strconv_ErrSyntax)] }
def RxHexSaid : Prop := rxHexRow.holds Tryz.pinned (OpenSpec.ofChange rxHexSpec)

/-- ITS FALSE NEIGHBOUR: 'it returns false'. Refute it at one input. -/
def rxHexWrong : ChangeSpec := { name := "rxHex", fn := fun _ => fun
  | [d1, d2, d3] => { results := [.lit (.bool false)], args := [d1, d2, d3] }
  | _ => none }
def RxHexWrongFalsely : Prop := rxHexRow.holds Tryz.pinned (OpenSpec.ofChange rxHexWrong)

/-- 'glyphcutterlaw06.RxTimes': WHATEVER THE INPUT: true; the input reads as it did. -/
def rxTimesSpec : ChangeSpec := { name := "rxTimes", fn := fun _ => fun
  | [d1, d2, d3] => { results := [.lit (.bool true)], args := [d1, d2, d3] }
  | _ => none }
def rxTimesRow : OpenClaim := { program := "ytahgljglleeloaagreatdoor", sum := "11bf767f64ef3a39796b7ccf8b62cb6f1d777315ee84529ea4861a7ee610fa4c", func := "glyphcutter/glyphcutterlaw06.RxTimes", spec := "rxTimes", inPlace := ["internal/bytealg.IndexByteString", "internal/bytealg.IndexString", "internal/abi.NoEscape"], unfollowed := true, recurses := true, named := ["glyphcutter/set.areas", "glyphcutter/fold.runs", "strconv.ErrSyntax", "strconv.ErrRange", "internal/strconv.uint64pow10", "math/bits.deBruijn32tab", "math/bits.deBruijn64tab", "internal/bytealg.MaxLen"], plainKeys := false, apart := false, laid := [("math/bits.deBruijn32tab", laid_math_bits_deBruijn32tab), ("math/bits.deBruijn64tab", laid_math_bits_deBruijn64tab), ("internal/strconv.uint64pow10", laid_internal_strconv_uint64pow10), ("glyphcutter/set.areas", laid_glyphcutter_set_areas), ("glyphcutter/fold.runs", laid_glyphcutter_fold_runs), ("strconv.ErrRange", laid_strconv_ErrRange), ("strconv.ErrSyntax", laid_strconv_ErrSyntax)] }
def RxTimesSaid : Prop := rxTimesRow.holds Tryz.pinned (OpenSpec.ofChange rxTimesSpec)

/-- ITS FALSE NEIGHBOUR: 'it returns false'. Refute it at one input. -/
def rxTimesWrong : ChangeSpec := { name := "rxTimes", fn := fun _ => fun
  | [d1, d2, d3] => { results := [.lit (.bool false)], args := [d1, d2, d3] }
  | _ => none }
def RxTimesWrongFalsely : Prop := rxTimesRow.holds Tryz.pinned (OpenSpec.ofChange rxTimesWrong)

/-- 'glyphcutterlaw06.RxPlain': WHATEVER THE INPUT: true; the input reads as it did. -/
def rxPlainSpec : ChangeSpec := { name := "rxPlain", fn := fun _ => fun
  | [d] => { results := [.lit (.bool true)], args := [d] }
  | _ => none }
def rxPlainRow : OpenClaim := { program := "ytahgljglleeloaagreatdoor", sum := "11bf767f64ef3a39796b7ccf8b62cb6f1d777315ee84529ea4861a7ee610fa4c", func := "glyphcutter/glyphcutterlaw06.RxPlain", spec := "rxPlain", inPlace := ["internal/bytealg.IndexByteString", "internal/bytealg.IndexString", "internal/abi.NoEscape"], unfollowed := true, recurses := true, named := ["glyphcutter/set.areas", "glyphcutter/fold.runs", "strconv.ErrSyntax", "strconv.ErrRange", "internal/strconv.uint64pow10", "math/bits.deBruijn32tab", "math/bits.deBruijn64tab", "internal/bytealg.MaxLen"], plainKeys := false, apart := false, laid := [("math/bits.deBruijn32tab", laid_math_bits_deBruijn32tab), ("math/bits.deBruijn64tab", laid_math_bits_deBruijn64tab), ("internal/strconv.uint64pow10", laid_internal_strconv_uint64pow10), ("glyphcutter/set.areas", laid_glyphcutter_set_areas), ("glyphcutter/fold.runs", laid_glyphcutter_fold_runs), ("strconv.ErrRange", laid_strconv_ErrRange), ("strconv.ErrSyntax", laid_strconv_ErrSyntax)] }
def RxPlainSaid : Prop := rxPlainRow.holds Tryz.pinned (OpenSpec.ofChange rxPlainSpec)

/-- ITS FALSE NEIGHBOUR: 'it returns false'. Refute it at one input. -/
def rxPlainWrong : ChangeSpec := { name := "rxPlain", fn := fun _ => fun
  | [d] => { results := [.lit (.bool false)], args := [d] }
  | _ => none }
def RxPlainWrongFalsely : Prop := rxPlainRow.holds Tryz.pinned (OpenSpec.ofChange rxPlainWrong)

/-- 'glyphcutterlaw06.RxBrackets': WHATEVER THE INPUT: true; the input reads as it did. -/
def rxBracketsSpec : ChangeSpec := { name := "rxBrackets", fn := fun _ => fun
  | [d1, d2] => { results := [.lit (.bool true)], args := [d1, d2] }
  | _ => none }
def rxBracketsRow : OpenClaim := { program := "ytahgljglleeloaagreatdoor", sum := "11bf767f64ef3a39796b7ccf8b62cb6f1d777315ee84529ea4861a7ee610fa4c", func := "glyphcutter/glyphcutterlaw06.RxBrackets", spec := "rxBrackets", inPlace := ["internal/bytealg.IndexByteString", "internal/bytealg.IndexString", "internal/abi.NoEscape"], unfollowed := true, recurses := true, named := ["glyphcutter/set.areas", "glyphcutter/fold.runs", "strconv.ErrSyntax", "strconv.ErrRange", "internal/strconv.uint64pow10", "math/bits.deBruijn32tab", "math/bits.deBruijn64tab", "internal/bytealg.MaxLen"], plainKeys := false, apart := false, laid := [("math/bits.deBruijn32tab", laid_math_bits_deBruijn32tab), ("math/bits.deBruijn64tab", laid_math_bits_deBruijn64tab), ("internal/strconv.uint64pow10", laid_internal_strconv_uint64pow10), ("glyphcutter/set.areas", laid_glyphcutter_set_areas), ("glyphcutter/fold.runs", laid_glyphcutter_fold_runs), ("strconv.ErrRange", laid_strconv_ErrRange), ("strconv.ErrSyntax", laid_strconv_ErrSyntax)] }
def RxBracketsSaid : Prop := rxBracketsRow.holds Tryz.pinned (OpenSpec.ofChange rxBracketsSpec)

/-- ITS FALSE NEIGHBOUR: 'it returns false'. Refute it at one input. -/
def rxBracketsWrong : ChangeSpec := { name := "rxBrackets", fn := fun _ => fun
  | [d1, d2] => { results := [.lit (.bool false)], args := [d1, d2] }
  | _ => none }
def RxBracketsWrongFalsely : Prop := rxBracketsRow.holds Tryz.pinned (OpenSpec.ofChange rxBracketsWrong)

/-- 'glyphcutterlaw06.RxDeep': WHATEVER THE INPUT: true; the input reads as it did. -/
def rxDeepSpec : ChangeSpec := { name := "rxDeep", fn := fun _ => fun
  | [d] => { results := [.lit (.bool true)], args := [d] }
  | _ => none }
def rxDeepRow : OpenClaim := { program := "ytahgljglleeloaagreatdoor", sum := "11bf767f64ef3a39796b7ccf8b62cb6f1d777315ee84529ea4861a7ee610fa4c", func := "glyphcutter/glyphcutterlaw06.RxDeep", spec := "rxDeep", inPlace := ["internal/bytealg.IndexByteString", "internal/bytealg.IndexString", "internal/abi.NoEscape"], unfollowed := true, recurses := true, named := ["glyphcutter/set.areas", "glyphcutter/fold.runs", "strconv.ErrSyntax", "strconv.ErrRange", "internal/strconv.uint64pow10", "math/bits.deBruijn32tab", "math/bits.deBruijn64tab", "internal/bytealg.MaxLen"], plainKeys := false, apart := false, laid := [("math/bits.deBruijn32tab", laid_math_bits_deBruijn32tab), ("math/bits.deBruijn64tab", laid_math_bits_deBruijn64tab), ("internal/strconv.uint64pow10", laid_internal_strconv_uint64pow10), ("glyphcutter/set.areas", laid_glyphcutter_set_areas), ("glyphcutter/fold.runs", laid_glyphcutter_fold_runs), ("strconv.ErrRange", laid_strconv_ErrRange), ("strconv.ErrSyntax", laid_strconv_ErrSyntax)] }
def RxDeepSaid : Prop := rxDeepRow.holds Tryz.pinned (OpenSpec.ofChange rxDeepSpec)

/-- ITS FALSE NEIGHBOUR: 'it returns false'. Refute it at one input. -/
def rxDeepWrong : ChangeSpec := { name := "rxDeep", fn := fun _ => fun
  | [d] => { results := [.lit (.bool false)], args := [d] }
  | _ => none }
def RxDeepWrongFalsely : Prop := rxDeepRow.holds Tryz.pinned (OpenSpec.ofChange rxDeepWrong)

/-- 'glyphcutterlaw06.RxFirst': WHATEVER THE INPUT: true; the input reads as it did. -/
def rxFirstSpec : ChangeSpec := { name := "rxFirst", fn := fun _ => fun
  | [d1, d2] => { results := [.lit (.bool true)], args := [d1, d2] }
  | _ => none }
def rxFirstRow : OpenClaim := { program := "ytahgljglleeloaagreatdoor", sum := "11bf767f64ef3a39796b7ccf8b62cb6f1d777315ee84529ea4861a7ee610fa4c", func := "glyphcutter/glyphcutterlaw06.RxFirst", spec := "rxFirst", inPlace := ["internal/bytealg.IndexByteString", "internal/bytealg.IndexString", "internal/abi.NoEscape"], unfollowed := true, recurses := true, named := ["glyphcutter/set.areas", "glyphcutter/fold.runs", "strconv.ErrSyntax", "strconv.ErrRange", "internal/strconv.uint64pow10", "math/bits.deBruijn32tab", "math/bits.deBruijn64tab", "internal/bytealg.MaxLen"], plainKeys := false, apart := false, laid := [("math/bits.deBruijn32tab", laid_math_bits_deBruijn32tab), ("math/bits.deBruijn64tab", laid_math_bits_deBruijn64tab), ("internal/strconv.uint64pow10", laid_internal_strconv_uint64pow10), ("glyphcutter/set.areas", laid_glyphcutter_set_areas), ("glyphcutter/fold.runs", laid_glyphcutter_fold_runs), ("strconv.ErrRange", laid_strconv_ErrRange), ("strconv.ErrSyntax", laid_strconv_ErrSyntax)] }
def RxFirstSaid : Prop := rxFirstRow.holds Tryz.pinned (OpenSpec.ofChange rxFirstSpec)

/-- ITS FALSE NEIGHBOUR: 'it returns false'. Refute it at one input. -/
def rxFirstWrong : ChangeSpec := { name := "rxFirst", fn := fun _ => fun
  | [d1, d2] => { results := [.lit (.bool false)], args := [d1, d2] }
  | _ => none }
def RxFirstWrongFalsely : Prop := rxFirstRow.holds Tryz.pinned (OpenSpec.ofChange rxFirstWrong)

/- THE SECOND FORM. 'bulk': how many values and letters a reading holds, each counted each time it is reached (what is shared counts as often as it is met; a slice's spare places count too). A statement '..UptoSaid' is the law's where the arguments, and the package variables that the reading takes, are together of bulk at most 1048576: NARROWER than '..Said'. Prove '..Said' where nothing that the law and all that it calls make is longer than what came in: it says more and counts as full. Else prove '..UptoSaid'. A law counts once. -/
mutual
def uptoBulk {H : Type} : DataW H → Nat
  | .lit (.string bytes) => bytes.length + 1
  | .lit _ => 1
  | .nil => 1
  | .ptr d => uptoBulk d + 1
  | .slice elems spare => uptoBulkAll elems + uptoBulkAll spare + 1
  | .agg parts => uptoBulkAll parts + 1
  | .iface _ d => uptoBulk d + 1
  | .map entries => uptoBulkEntries entries + 1
  | .held _ => 1
def uptoBulkAll {H : Type} : List (DataW H) → Nat
  | [] => 0
  | d :: r => uptoBulk d + uptoBulkAll r
def uptoBulkEntries {H : Type} : List (Lit × DataW H) → Nat
  | [] => 0
  | x :: r => uptoBulkEntry x + uptoBulkEntries r
def uptoBulkEntry {H : Type} : Lit × DataW H → Nat
  | (.string bytes, d) => bytes.length + uptoBulk d + 1
  | (_, d) => uptoBulk d + 1
 end
def uptoSmall : (H : Type) → List (DataW H) → Bool := fun _ ds => decide (uptoBulkAll ds ≤ 1048576)
def OpenSpec.upto (s : _root_.Go.ChangeSpec) : _root_.Go.OpenSpec := { _root_.Go.OpenSpec.ofChange s with cond := some uptoSmall }

/-- 'glyphcutterlaw06.RxHex', WHERE WHAT IT READS IS OF BULK AT MOST 1048576: true; the input reads as it did. -/
def rxHexUptoRow : OpenClaim := { program := "ytahgljglleeloaagreatdoor", sum := "11bf767f64ef3a39796b7ccf8b62cb6f1d777315ee84529ea4861a7ee610fa4c", func := "glyphcutter/glyphcutterlaw06.RxHex", spec := "rxHex", inPlace := ["internal/bytealg.IndexByteString", "internal/bytealg.IndexString", "internal/abi.NoEscape"], unfollowed := true, recurses := true, named := ["glyphcutter/set.areas", "glyphcutter/fold.runs", "strconv.ErrSyntax", "strconv.ErrRange", "internal/strconv.uint64pow10", "math/bits.deBruijn32tab", "math/bits.deBruijn64tab", "internal/bytealg.MaxLen"], plainKeys := false, apart := false, laid := [("math/bits.deBruijn32tab", laid_math_bits_deBruijn32tab), ("math/bits.deBruijn64tab", laid_math_bits_deBruijn64tab), ("internal/strconv.uint64pow10", laid_internal_strconv_uint64pow10), ("glyphcutter/set.areas", laid_glyphcutter_set_areas), ("glyphcutter/fold.runs", laid_glyphcutter_fold_runs), ("strconv.ErrRange", laid_strconv_ErrRange), ("strconv.ErrSyntax", laid_strconv_ErrSyntax)], narrowed := true }
def RxHexUptoSaid : Prop := rxHexUptoRow.holds Tryz.pinned (OpenSpec.upto rxHexSpec)

/-- 'glyphcutterlaw06.RxTimes', WHERE WHAT IT READS IS OF BULK AT MOST 1048576: true; the input reads as it did. -/
def rxTimesUptoRow : OpenClaim := { program := "ytahgljglleeloaagreatdoor", sum := "11bf767f64ef3a39796b7ccf8b62cb6f1d777315ee84529ea4861a7ee610fa4c", func := "glyphcutter/glyphcutterlaw06.RxTimes", spec := "rxTimes", inPlace := ["internal/bytealg.IndexByteString", "internal/bytealg.IndexString", "internal/abi.NoEscape"], unfollowed := true, recurses := true, named := ["glyphcutter/set.areas", "glyphcutter/fold.runs", "strconv.ErrSyntax", "strconv.ErrRange", "internal/strconv.uint64pow10", "math/bits.deBruijn32tab", "math/bits.deBruijn64tab", "internal/bytealg.MaxLen"], plainKeys := false, apart := false, laid := [("math/bits.deBruijn32tab", laid_math_bits_deBruijn32tab), ("math/bits.deBruijn64tab", laid_math_bits_deBruijn64tab), ("internal/strconv.uint64pow10", laid_internal_strconv_uint64pow10), ("glyphcutter/set.areas", laid_glyphcutter_set_areas), ("glyphcutter/fold.runs", laid_glyphcutter_fold_runs), ("strconv.ErrRange", laid_strconv_ErrRange), ("strconv.ErrSyntax", laid_strconv_ErrSyntax)], narrowed := true }
def RxTimesUptoSaid : Prop := rxTimesUptoRow.holds Tryz.pinned (OpenSpec.upto rxTimesSpec)

/-- 'glyphcutterlaw06.RxPlain', WHERE WHAT IT READS IS OF BULK AT MOST 1048576: true; the input reads as it did. -/
def rxPlainUptoRow : OpenClaim := { program := "ytahgljglleeloaagreatdoor", sum := "11bf767f64ef3a39796b7ccf8b62cb6f1d777315ee84529ea4861a7ee610fa4c", func := "glyphcutter/glyphcutterlaw06.RxPlain", spec := "rxPlain", inPlace := ["internal/bytealg.IndexByteString", "internal/bytealg.IndexString", "internal/abi.NoEscape"], unfollowed := true, recurses := true, named := ["glyphcutter/set.areas", "glyphcutter/fold.runs", "strconv.ErrSyntax", "strconv.ErrRange", "internal/strconv.uint64pow10", "math/bits.deBruijn32tab", "math/bits.deBruijn64tab", "internal/bytealg.MaxLen"], plainKeys := false, apart := false, laid := [("math/bits.deBruijn32tab", laid_math_bits_deBruijn32tab), ("math/bits.deBruijn64tab", laid_math_bits_deBruijn64tab), ("internal/strconv.uint64pow10", laid_internal_strconv_uint64pow10), ("glyphcutter/set.areas", laid_glyphcutter_set_areas), ("glyphcutter/fold.runs", laid_glyphcutter_fold_runs), ("strconv.ErrRange", laid_strconv_ErrRange), ("strconv.ErrSyntax", laid_strconv_ErrSyntax)], narrowed := true }
def RxPlainUptoSaid : Prop := rxPlainUptoRow.holds Tryz.pinned (OpenSpec.upto rxPlainSpec)

/-- 'glyphcutterlaw06.RxBrackets', WHERE WHAT IT READS IS OF BULK AT MOST 1048576: true; the input reads as it did. -/
def rxBracketsUptoRow : OpenClaim := { program := "ytahgljglleeloaagreatdoor", sum := "11bf767f64ef3a39796b7ccf8b62cb6f1d777315ee84529ea4861a7ee610fa4c", func := "glyphcutter/glyphcutterlaw06.RxBrackets", spec := "rxBrackets", inPlace := ["internal/bytealg.IndexByteString", "internal/bytealg.IndexString", "internal/abi.NoEscape"], unfollowed := true, recurses := true, named := ["glyphcutter/set.areas", "glyphcutter/fold.runs", "strconv.ErrSyntax", "strconv.ErrRange", "internal/strconv.uint64pow10", "math/bits.deBruijn32tab", "math/bits.deBruijn64tab", "internal/bytealg.MaxLen"], plainKeys := false, apart := false, laid := [("math/bits.deBruijn32tab", laid_math_bits_deBruijn32tab), ("math/bits.deBruijn64tab", laid_math_bits_deBruijn64tab), ("internal/strconv.uint64pow10", laid_internal_strconv_uint64pow10), ("glyphcutter/set.areas", laid_glyphcutter_set_areas), ("glyphcutter/fold.runs", laid_glyphcutter_fold_runs), ("strconv.ErrRange", laid_strconv_ErrRange), ("strconv.ErrSyntax", laid_strconv_ErrSyntax)], narrowed := true }
def RxBracketsUptoSaid : Prop := rxBracketsUptoRow.holds Tryz.pinned (OpenSpec.upto rxBracketsSpec)

/-- 'glyphcutterlaw06.RxDeep', WHERE WHAT IT READS IS OF BULK AT MOST 1048576: true; the input reads as it did. -/
def rxDeepUptoRow : OpenClaim := { program := "ytahgljglleeloaagreatdoor", sum := "11bf767f64ef3a39796b7ccf8b62cb6f1d777315ee84529ea4861a7ee610fa4c", func := "glyphcutter/glyphcutterlaw06.RxDeep", spec := "rxDeep", inPlace := ["internal/bytealg.IndexByteString", "internal/bytealg.IndexString", "internal/abi.NoEscape"], unfollowed := true, recurses := true, named := ["glyphcutter/set.areas", "glyphcutter/fold.runs", "strconv.ErrSyntax", "strconv.ErrRange", "internal/strconv.uint64pow10", "math/bits.deBruijn32tab", "math/bits.deBruijn64tab", "internal/bytealg.MaxLen"], plainKeys := false, apart := false, laid := [("math/bits.deBruijn32tab", laid_math_bits_deBruijn32tab), ("math/bits.deBruijn64tab", laid_math_bits_deBruijn64tab), ("internal/strconv.uint64pow10", laid_internal_strconv_uint64pow10), ("glyphcutter/set.areas", laid_glyphcutter_set_areas), ("glyphcutter/fold.runs", laid_glyphcutter_fold_runs), ("strconv.ErrRange", laid_strconv_ErrRange), ("strconv.ErrSyntax", laid_strconv_ErrSyntax)], narrowed := true }
def RxDeepUptoSaid : Prop := rxDeepUptoRow.holds Tryz.pinned (OpenSpec.upto rxDeepSpec)

/-- 'glyphcutterlaw06.RxFirst', WHERE WHAT IT READS IS OF BULK AT MOST 1048576: true; the input reads as it did. -/
def rxFirstUptoRow : OpenClaim := { program := "ytahgljglleeloaagreatdoor", sum := "11bf767f64ef3a39796b7ccf8b62cb6f1d777315ee84529ea4861a7ee610fa4c", func := "glyphcutter/glyphcutterlaw06.RxFirst", spec := "rxFirst", inPlace := ["internal/bytealg.IndexByteString", "internal/bytealg.IndexString", "internal/abi.NoEscape"], unfollowed := true, recurses := true, named := ["glyphcutter/set.areas", "glyphcutter/fold.runs", "strconv.ErrSyntax", "strconv.ErrRange", "internal/strconv.uint64pow10", "math/bits.deBruijn32tab", "math/bits.deBruijn64tab", "internal/bytealg.MaxLen"], plainKeys := false, apart := false, laid := [("math/bits.deBruijn32tab", laid_math_bits_deBruijn32tab), ("math/bits.deBruijn64tab", laid_math_bits_deBruijn64tab), ("internal/strconv.uint64pow10", laid_internal_strconv_uint64pow10), ("glyphcutter/set.areas", laid_glyphcutter_set_areas), ("glyphcutter/fold.runs", laid_glyphcutter_fold_runs), ("strconv.ErrRange", laid_strconv_ErrRange), ("strconv.ErrSyntax", laid_strconv_ErrSyntax)], narrowed := true }
def RxFirstUptoSaid : Prop := rxFirstUptoRow.holds Tryz.pinned (OpenSpec.upto rxFirstSpec)

end Rows
end Go.Proofs.YtahgljglleeloaaGreatDoor
