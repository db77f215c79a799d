/- RefOps, RefUnion, in one text. -/
/- The document's own answer for layer 1: Norm, Not, Inter, Minus, Size, Same. -/
import Derived.Test.YtioahgklplbinaaDoorRefMake
import Derived.Test.YtioahgklplbinaaDoorPURE
namespace Go.Proofs.YtioahgklplbinaaDoor
open Go.RowKit Go.Shelf SetM

theorem kf2 (p q : Bool) : kfOf 2 p q = (p && !q) := by cases p <;> cases q <;> rfl
theorem tells_nil (r : Int) : ¬ Tells ([] : List Sp) r := fun h => mem_nil r h.2
end Go.Proofs.YtioahgklplbinaaDoor

/- The document's own Union. -/
