/- A law's loop step: one span more of a number that a choice says; plain facts on such lists. -/
import Derived.Test.YtmmghgfkpndokaaDoorFKnown
import Derived.Test.YtmmghgfkpndokaaDoorFNear
namespace Go.Proofs.YtmmghgfkpndokaaDoor
open Go.RowKit Go.Shelf SetM

/-- The spans of choices, each e + 1 numbers long. -/
def nearsF (e : Int) (ds : List Int) : List Sp := ds.map fun d => (nearF d, nearF d + e)
theorem nearsF_next (e : Int) (ds : List Int) (k : Nat) (hk : k < ds.length) : nearsF e (ds.take (k + 1)) = nearsF e (ds.take k) ++ [(nearF ds[k], nearF ds[k] + e)] := by
  unfold nearsF
  rw [List.take_succ_eq_append_getElem hk, List.map_append]; simp
theorem nearsF_len (e : Int) (ds : List Int) : (nearsF e ds).length = ds.length := by simp [nearsF]
end Go.Proofs.YtmmghgfkpndokaaDoor
