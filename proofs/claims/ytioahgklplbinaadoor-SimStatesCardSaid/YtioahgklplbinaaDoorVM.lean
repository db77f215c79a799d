/- VMath, VTrip, VCnt, VSc, in one text. -/
/- Plain mathematics of patterns as texts: a tree with its spans, its text, whether it may be. Nothing of a program stands here. -/
import Derived.Test.YtioahgklplbinaaDoorPURE
namespace WrM
open SetM RxM

/-- A node with its spans. -/
inductive Ns where
  | mk (kind : Nat) (sl : List Sp) (kids : List Ns) (mn mx : Int)
/-! What may be. -/
/-- The spans are a set's. -/
def Norml (l : List Sp) : Prop := Nf l ∧ ∀ r, Mem l r → Sc r
/-! The tree without its spans. -/
end WrM

/- What is written is read as it was: the reader of patterns, with as many rounds as are wanted, at a tree's text. Nothing of a program stands here. -/

/- How many nodes a pattern of so many signs has; how long its text is. Nothing of a program stands here. -/

/- Sets of a parsed tree tell scalars alone. Nothing of a program stands here. -/
