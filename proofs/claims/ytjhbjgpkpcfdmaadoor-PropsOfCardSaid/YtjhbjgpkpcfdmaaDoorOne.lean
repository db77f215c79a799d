
/- SetOne: the walk. -/
import Derived.Test.YtjhbjgpkpcfdmaaDoorKnown
namespace Go.Proofs.YtjhbjgpkpcfdmaaDoor
open Go.RowKit Go.Shelf SetM

/-- The number that a choice says. -/
def placeF (c : Int) : Int :=
  if c % 8 = 0 then 55280 + c / 8 % 2080 else if c % 8 = 1 then 1114080 + c / 8 % 32 else if c % 8 = 2 then 2032 + c / 8 % 48 else if c % 8 = 3 then 65520 + c / 8 % 48 else c / 8 % 200
theorem placeF_in (c : Int) (_h0 : 0 ≤ c) : 0 ≤ placeF c ∧ placeF c ≤ 1114111 := by
  unfold placeF
  split
  · omega
  · split
    · omega
    · split
      · omega
      · split <;> omega
theorem tells_one (x r : Int) : Tells [(x, x)] r ↔ Sc x ∧ r = x := by
  unfold Tells
  rw [mem_cons]
  constructor
  · rintro ⟨h1, h2 | h2⟩
    · have : r = x := by dsimp only at h2; omega
      subst this; exact ⟨h1, rfl⟩
    · exact absurd h2 (mem_nil r)
  · rintro ⟨h1, rfl⟩; exact ⟨h1, .inl ⟨Int.le_refl _, Int.le_refl _⟩⟩

end Go.Proofs.YtjhbjgpkpcfdmaaDoor
