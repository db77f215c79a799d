/- Math, Words, in one text. -/
import Derived.Test.YtioahgklplbinaaDoorPURE
import Derived.Test.YtioahgklplbinaaDoorWE
import Derived.RangeFuncNested
import Derived.RangeFuncBound
import Derived.RangeFuncCalls
import Derived.RangeFuncLeaves
import Derived.RangeFuncBox
import Derived.Shelf.Abstract
import Derived.Shelf.RegionOpen
import Derived.WalkKit
import Derived.OwnWalkIn
import Derived.TacticsInMore
import Derived.LoopNIn
import Derived.LoopIn
import Derived.Lib.Hide
import Derived.Test.YtioahgklplbinaaDoorProg
/- Plain mathematics of sets of scalars as lists of spans: normal lists are unique; what the marks of two lists of spans come to. Nothing of a program stands here. -/
namespace SetM
theorem mem_endsOf (s : Sp) (r : Int) : Mem (endsOf s) r ↔ Sc r ∧ s.1 ≤ r ∧ r ≤ s.2 := by
  unfold endsOf Sc
  split
  · simp [Mem]; omega
  · rw [mem_append]
    have e1 : Mem (if max s.1 0 ≤ min s.2 55295 then [(max s.1 0, min s.2 55295)] else []) r ↔ (0 ≤ r ∧ r ≤ 55295) ∧ s.1 ≤ r ∧ r ≤ s.2 := by
      split
      · simp [Mem]; omega
      · simp [Mem]; omega
    have e2 : Mem (if s.2 < max s.1 57344 then [] else if max s.1 57344 ≤ min s.2 1114111 then [(max s.1 57344, min s.2 1114111)] else []) r ↔ (57344 ≤ r ∧ r ≤ 1114111) ∧ s.1 ≤ r ∧ r ≤ s.2 := by
      split
      · simp [Mem]; omega
      · split
        · simp [Mem]; omega
        · simp [Mem]; omega
    rw [e1, e2]
    omega
theorem mem_endsL (l : List Sp) (r : Int) : Mem (endsL l) r ↔ Tells l r := by
  induction l with
  | nil => simp [endsL, mem_nil, Tells]
  | cons s t ih =>
    have : endsL (s :: t) = endsOf s ++ endsL t := rfl
    rw [this, mem_append, ih, mem_endsOf]
    unfold Tells
    rw [mem_cons]
    constructor
    · rintro (⟨h1, h2⟩ | ⟨h1, h2⟩)
      · exact ⟨h1, .inl h2⟩
      · exact ⟨h1, .inr h2⟩
    · rintro ⟨h1, h2 | h2⟩
      · exact .inl ⟨h1, h2⟩
      · exact .inr ⟨h1, h2⟩
/-- What the marks of one side up to a place come to. -/
def D : List Mk → Int → Int → Int
  | [], _, _ => 0
  | m :: t, k, r => (if m.2.1 = k ∧ m.1 ≤ r then m.2.2 else 0) + D t k r
end SetM

/- Words for memory: a slice of spans that reads as a list; the package's table of areas. -/
namespace Go.Proofs.YtioahgklplbinaaDoor
open Go.RowKit Go.Shelf SetM

/-- The pairs of ends that the iterator may hand over. -/
abbrev End := { x : Sp // 0 ≤ x.1 ∧ x.1 ≤ x.2 ∧ x.2 ≤ 1114111 }
def endE (x : End) : Array Value := #[.int .i64 x.1.1, .int .i64 x.1.2]
/-- The ends that spans tell, each with its bounds. -/
def endsE (l : List Sp) : List End := (endsL l).pmap (fun x h => ⟨x, h⟩) (fun x hx => endsL_in l x hx)
theorem endsE_val (l : List Sp) : (endsE l).map (·.1) = endsL l := by
  unfold endsE; rw [List.map_pmap]; simp

theorem Areas.below {n₀ : Nat} {V W : World} (h : Below n₀ V W) (h0 : 0 < n₀) (hs : Areas V) : Areas W :=
  ⟨(h.cell (p := ⟨0, 0, none⟩) h0).trans hs.1, (h.cell (p := ⟨0, 1, none⟩) h0).trans hs.2.1, (h.cell (p := ⟨0, 2, none⟩) h0).trans hs.2.2.1, (h.cell (p := ⟨0, 3, none⟩) h0).trans hs.2.2.2⟩
end Go.Proofs.YtioahgklplbinaaDoor
