/- RNode, RPiece, RClass, RRow, RJoin, RRep, RCat, RAlt, RGroup, RDefs, RNamed, RParse, RKnown, in one text. -/
/- Nodes in memory. -/
import Derived.Test.YtioahgklplbinaaDoorWE
import Derived.Test.YtioahgklplbinaaDoorPURE
import Derived.RegionTactic
import Derived.ChangeAlike
import Derived.Deep.LoopGhost
import Derived.Deep.QuietTactic
import Derived.BigQuiet
import Derived.Handy
import Derived.Deep.RegionHeld3
import Derived.WalkSmall
import Derived.IntWalk
import Derived.Test.YtioahgklplbinaaDoorSET
import Derived.Laws.AppendOwnNone
import Derived.Lib.Hide
import Derived.WalkKit
import Derived.WalkMore
import Derived.Outline
import Derived.Deep.DeepCutAuto
import Derived.Maps.OwnOps
import Derived.Maps.OwnSet
import Derived.Maps.Views
import Derived.Sort.KeysCollected
import Derived.Laws.BytesArg
import Derived.Laws.Concat
import Derived.Laws.Strings2
import Derived.Test.YtioahgklplbinaaDoorRE
import Derived.Deep.AppendLies
import Derived.Deep.RegionLaw
import Derived.Lib.IndexAny
import Derived.Shelf.SlicesQ.IndexFunc
import Derived.Laws.IdiomStrings
import Derived.Laws.Strings3
import Derived.BigCall
import Derived.BigGuard
import Derived.StillTailTactics
namespace Go.Proofs.YtioahgklplbinaaDoor
open Go.RowKit Go.Shelf SetM RxM

/-! What a set's call hands back lies in new memory. -/
def SetNew (W : World) (K : Int → Prop) (N : Nat) (e : Ending) (W' : World) : Prop :=
  ∃ P c out, e = .returned (.slice P (List.length out) c) ∧ IsSet out K ∧ out.length ≤ N ∧ Sl W' P out ∧ (P = none → c = 0) ∧ (∀ a, P = some a → W.heap.size ≤ a.block) ∧ Below W.heap.size W W'
theorem SetPost.toNew {W : World} {K : Int → Prop} {N : Nat} {e : Ending} {W' : World} (h : SetPost W K N e W') : SetNew W K N e W' := by
  obtain ⟨v, out, h1, h2, h3, h4, h5, h6⟩ := h
  have h7 := h5.lt
  obtain ⟨P, c, rfl, hs⟩ := spans_of h5
  refine ⟨P, c, out, h1, ⟨h2, h3⟩, h4, hs, fun hP => ?_, fun a ha => ?_, h6⟩
  · rcases h5.2 with ⟨e1, _⟩ | ⟨g, cap, cur, e1, _⟩
    · injection e1
    · subst hP; injection e1 with e1; cases e1
  · subst ha
    exact (h7 a.block rfl).1
/-! What every call of the reader needs beside it. -/
/-! Nodes. -/
/-! A variable that holds a node. -/
end Go.Proofs.YtioahgklplbinaaDoor

/- What one sign of a class, or behind a stroke, comes to: in memory. -/

/- The reader reads items in brackets. -/

/- Rows of nodes; what becomes of them as one node. -/

/- Nodes as one. -/

/- The reader reads an atom, and the signs behind it. -/

/- The reader reads a row of atoms; rows with strokes between. -/

/- The reader reads rows with strokes between. -/

/- The reader reads a pattern in brackets. -/

/- Definitions in memory; which of them has a name. -/

/- The reader reads a definition's name. -/

/- rx.Parse: what becomes of a text of scalars; of one that is too long. -/

/- What is read off a node; the chapter's examples of rx hold (known), wherever the tables are. -/
