
/- The chapter's examples hold (known), whatever the world. -/
import Derived.Test.YtkphbjppmiefkaaDoorHas
import Derived.Test.YtkphbjppmiefkaaDoorSize
import Derived.Test.YtkphbjppmiefkaaDoorEqual
import Derived.Test.YtkphbjppmiefkaaDoorUnion
namespace Go.Proofs.YtkphbjppmiefkaaDoor
open Go.RowKit Go.Shelf SetM

theorem tells_iff (l : List Sp) (r : Int) : Tells l r ↔ Sc r ∧ Mem l r := Iff.rfl
/-- The normal list of a condition is the one that is written down. -/
theorem nf_is {out l : List Sp} {K : Int → Prop} (hn : Nf out) (hm : ∀ r, Mem out r ↔ K r) (hl : Nf l) (h : ∀ r, Mem l r ↔ K r) : out = l :=
  nf_unique out l hn hl (fun r => by rw [hm, h])

abbrev kA : List Sp := [(0, 9)]
abbrev kB : List Sp := [(0, 55295), (57344, 1114111)]
theorem k1 (r : Int) : Mem kA r ↔ Tells [(5, 9), (0, 4), (7, 2)] r := by simp [Tells, Mem, Sc]; omega
theorem k2 (r : Int) : Mem kB r ↔ Sc r ∧ ¬ Tells [] r := by simp [Tells, Mem, Sc]
theorem k3 (r : Int) : Mem kA r ↔ Tells kA r := by simp [Tells, Mem, Sc]; omega
theorem k4 (r : Int) : Mem kB r ↔ ∃ a ∈ [kA, kB], Tells a r := by
  rw [show (∃ a ∈ [kA, kB], Tells a r) ↔ (Tells kA r ∨ Tells kB r) from by simp]
  have h1 : Tells kA r ↔ (0 ≤ r ∧ r ≤ 9) := by simp [Tells, Mem, Sc]; omega
  have h2 : Tells kB r ↔ Mem kB r := by simp [Tells, Mem, Sc]
  rw [h1, h2]
  simp [Mem]; omega
theorem k5 (r : Int) : Mem kA r ↔ Tells kA r ∧ Tells kB r := by simp [Tells, Mem, Sc]; omega
theorem k6 (r : Int) : Mem [] r ↔ Tells kA r ∧ ¬ Tells kB r := by simp [Tells, Mem, Sc]; omega
theorem nA : Nf kA := by simp [Nf]
theorem nB : Nf kB := by simp [Nf]
theorem kh1 : decide (Tells kA 9) = true := by decide
theorem kh2 : decide (Tells kA 10) = false := by decide

/-- A slice of one block made at the head of a call. -/
theorem spans_new (w : World) (l : List Sp) : Spans (w.heap.size + 1) (w.alloc (.cells (cellsS l).toArray 42)) (some ⟨w.heap.size, 0, none⟩) l := fun _ => ⟨_, 0, rfl, by omega, fun j hj => by
  have hd : ∀ i, i < 2 → (w.alloc (.cells (cellsS l).toArray 42)).cell? ⟨w.heap.size, 0 + j * 2 + i, none⟩ = (encS l[j])[i]? := fun i hi => by
    rw [cell_of_row _ w.heap.size _ _ _ _ (heap_alloc_new w _), List.getElem?_toArray, cellsS_get l _ (by omega), show (0 + j * 2 + i) / 2 = j from by omega, show (0 + j * 2 + i) % 2 = i from by omega, List.getElem?_eq_getElem hj]; rfl
  exact ⟨hd 0 (by omega), hd 1 (by omega)⟩⟩

end Go.Proofs.YtkphbjppmiefkaaDoor
