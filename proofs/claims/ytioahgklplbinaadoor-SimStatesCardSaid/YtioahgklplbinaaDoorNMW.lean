/- NRvb, NWalk, NFork, NLw, in one text. -/
/- Nodes in memory as trees with their spans, and the blocks they lie in. -/
import Derived.Test.YtioahgklplbinaaDoorNMB
import Derived.Test.YtioahgklplbinaaDoorNMA
import Derived.Deep.RegionHeld3
import Derived.Deep.DeepCutAuto

/- Walks that hold a machine in a box: what stays from call to call; the document's fork. -/
namespace Go.Proofs.YtioahgklplbinaaDoor
open Go.RowKit Go.Shelf Go.Maps SetM PropsM RxM WrM NfaM
theorem Rw.ok.slice {W : World} {r : Rw} (h : r.ok W) : ∃ p c, r.v = .slice p r.n c := by
  rcases h.2 with ⟨h1, h2⟩ | ⟨g, cap, _, h1, _⟩
  · exact ⟨none, 0, by rw [h1, h2]⟩
  · exact ⟨_, _, h1⟩
end Go.Proofs.YtioahgklplbinaaDoor

/- The document's fork, by its laid at the same tree. -/
namespace Go.Proofs.YtioahgklplbinaaDoor
open Go.RowKit Go.Shelf Go.Maps SetM PropsM RxM WrM NfaM
/-- Three cells of a box. -/
theorem cells3 {W : World} {b : Nat} {x y z : Value} (h : W.heap[b]? = some (.cells #[x, y, z] 30 (0, 0))) : (W.cell? ⟨b, 0, none⟩ = some x ∧ W.cell? ⟨b, 1, none⟩ = some y ∧ W.cell? ⟨b, 2, none⟩ = some z) ∧ W.frozen? ⟨b, 0, none⟩ = false ∧ W.frozen? ⟨b, 1, none⟩ = false ∧ W.frozen? ⟨b, 2, none⟩ = false :=
  ⟨⟨cell_of_row W _ 0 _ _ _ h, cell_of_row W _ 1 _ _ _ h, cell_of_row W _ 2 _ _ _ h⟩, frozen_of_row W _ 0 _ _ h, frozen_of_row W _ 1 _ _ h, frozen_of_row W _ 2 _ _ h⟩
end Go.Proofs.YtioahgklplbinaaDoor

/- Walks with a machine, a node and a result's variable in boxes. -/
