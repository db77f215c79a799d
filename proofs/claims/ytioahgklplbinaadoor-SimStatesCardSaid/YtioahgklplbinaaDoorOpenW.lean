/- Arguments opened: slices of spans, with what their ends are. -/
import Derived.Test.YtioahgklplbinaaDoorKIT
import Derived.Test.YtioahgklplbinaaDoorRO
namespace Go.Proofs.YtioahgklplbinaaDoor
open Go.ChangeShapes Go.WideShapes Go.ChangeAt Go.RowKit SetM
set_option maxRecDepth 100000
section
variable {H : Type} {enc : TypeId × Value → H} {W : World} {base : Nat}
theorem span_wide {base : Nat} {spare : Nat → Bool} {held : Bool} {fuel : Nat} {lo hi : Int} {x : DataW H × List MemPlace} (h : DataW.trod enc Tryd.prog W base spare held fuel 52 [.int .i64 lo, .int .i64 hi] = some x) : -9223372036854775808 ≤ hi := by
  obtain ⟨xs, n, _, hx, hl, hn, hf⟩ := DataW.trod_struct Tryd.underlying52 h
  match xs, hn with
  | [y0, y1], _ =>
    have h1 : DataW.trod enc Tryd.prog W base spare held n 3 (([.int .i64 lo, .int .i64 hi] : List Value).drop 1 |>.take (Tryd.prog.cellsOf 3)) = some y1 := hf 1 _ rfl
    rw [cellsInt] at h1
    obtain ⟨b, hb, hb2, hw⟩ := DataW.trod_int Tryd.underlying3 h1
    simp at hb
    subst hb
    simp [Lit.wf, IntKind.min, IntKind.max, IntKind.bits, IntKind.signed] at hw
    omega
end
end Go.Proofs.YtioahgklplbinaaDoor
