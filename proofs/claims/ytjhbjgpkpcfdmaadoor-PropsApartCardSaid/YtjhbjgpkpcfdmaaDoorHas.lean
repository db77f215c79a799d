
/- set.Has: whether a number is told, by the iterator's contract. -/
import Derived.Test.YtjhbjgpkpcfdmaaDoorEnds
namespace Go.Proofs.YtjhbjgpkpcfdmaaDoor
open Go.RowKit Go.Shelf SetM
attribute [local go_sem] Oper.semAt_some

theorem mem_endsE (xs : List Sp) (r : Int) : (∃ x ∈ endsE xs, x.1.1 ≤ r ∧ r ≤ x.1.2) ↔ Tells xs r := by
  rw [← mem_endsL, ← endsE_val]
  unfold Mem
  simp only [List.mem_map]
  constructor
  · rintro ⟨x, hx, h⟩; exact ⟨x.1, ⟨x, hx, rfl⟩, h⟩
  · rintro ⟨s, ⟨x, hx, rfl⟩, h⟩; exact ⟨x, hx, h⟩

/-- None of the ends that came tells r; one does. -/
def NoneIn (r : Int) (pre : List End) : Prop := ∀ p ∈ pre, ¬ (p.1.1 ≤ r ∧ r ≤ p.1.2)
def SomeIn (r : Int) (pre : List End) : Prop := ∃ p ∈ pre, p.1.1 ≤ r ∧ r ≤ p.1.2
theorem NoneIn.snoc {r : Int} {pre : List End} {x : End} (h : NoneIn r pre) (hx : ¬ (x.1.1 ≤ r ∧ r ≤ x.1.2)) : NoneIn r (pre ++ [x]) := fun p hp => by
  rcases List.mem_append.1 hp with h1 | h1
  · exact h p h1
  · simp only [List.mem_cons, List.not_mem_nil, or_false] at h1; rw [h1]; exact hx
theorem tells_of_some {xs : List Sp} {r : Int} {pre : List End} (h : SomeIn r pre) (hp : pre <+: endsE xs) : Tells xs r := by
  obtain ⟨p, hp1, h1⟩ := h
  exact (mem_endsE xs r).1 ⟨p, hp.subset hp1, h1⟩
theorem tells_of_none {xs : List Sp} {r : Int} (h : NoneIn r (endsE xs)) : ¬ Tells xs r := fun ht => by
  obtain ⟨p, hp, h1⟩ := (mem_endsE xs r).2 ht
  exact h p hp h1

def HasPost (w : World) (xs : List Sp) (r : Int) (e : Ending) (w' : World) : Prop := e = .returned (.bool (decide (Tells xs r))) ∧ Below w.heap.size w w'

end Go.Proofs.YtjhbjgpkpcfdmaaDoor
