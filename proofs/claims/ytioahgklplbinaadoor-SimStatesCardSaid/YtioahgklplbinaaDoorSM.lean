/- Sort, Marks, in one text. -/
/- slices.SortFunc at marks: what a slice of the call's own holds behind it. -/
import Derived.Test.YtioahgklplbinaaDoorPURE
import Derived.WalkKit
import Derived.Sort.Grow
import Derived.Maps.AppendAt
import Derived.Lib.Hide
import Derived.Test.YtioahgklplbinaaDoorWE

/- set.marks: the marks of two lists of spans, in an order that rises. -/
namespace Go.Proofs.YtioahgklplbinaaDoor
open Go.RowKit Go.Shelf SetM
attribute [local go_sem] Oper.semAt_some

theorem cell_news (w : World) (l : List Value) (t : TypeId) : ∀ j u, l[j]? = some u → (w.alloc (.cells l.toArray t)).cell? ((⟨w.heap.size, 0, none⟩ : Addr).add j) = some u := by
  intro j u hj
  have : ((⟨w.heap.size, 0, none⟩ : Addr).add j) = ⟨w.heap.size, j, none⟩ := by unfold Addr.add; split <;> simp_all
  rw [this, cell_of_row _ w.heap.size j l.toArray t (0, 0) (World.alloc_heap_new w _)]
  simpa using hj
end Go.Proofs.YtioahgklplbinaaDoor
