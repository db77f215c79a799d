/- What came in, in a later world. -/
import Derived.Test.YtioahgklplbinaaDoorGMs
import Derived.Test.YtioahgklplbinaaDoorGLaw
namespace Go.Proofs.YtioahgklplbinaaDoor
open Go.RowKit Go.Shelf SetM NfaM SimM
theorem U16s.step {W W' : World} {A : Option Addr} {l : List Int} (h : U16s W.heap.size W A l) (hb : Below W.heap.size W W') : U16s W'.heap.size W' A l := (h.below hb).mono hb.size
theorem I8s.step {W W' : World} {A : Option Addr} {l : List Int} (h : I8s W A l) (hb : Below W.heap.size W W') : I8s W' A l :=
  ⟨h.1, fun j hj => by
    obtain ⟨b, off, e, h1, hc⟩ := h.2 j hj
    exact ⟨b, off, e, Nat.lt_of_lt_of_le h1 hb.size, (hb.cell (p := ⟨b, off + j, none⟩) h1).trans hc⟩⟩
theorem AsR.step {W W' : World} {A : Option Addr} {l : List (Int × Int × List Int × Bool)} (h : AsR W A l) (hb : Below W.heap.size W W') : AsR W' A l := fun j hj => by
  obtain ⟨b, off, sp, sc, e, h1, c0, c1, c2, c3, k0, k1, k2, k3⟩ := h j hj
  exact ⟨b, off, sp, sc, e, Nat.lt_of_lt_of_le h1 hb.size, (hb.cell (p := ⟨b, off + j * 4, none⟩) h1).trans c0, (hb.cell (p := ⟨b, off + j * 4 + 1, none⟩) h1).trans c1, (hb.cell (p := ⟨b, off + j * 4 + 2, none⟩) h1).trans c2, (hb.cell (p := ⟨b, off + j * 4 + 3, none⟩) h1).trans c3, k0, k1, U16s.step k2 hb, k3⟩
theorem scf_len (l : List Int) : (scF l).length = l.length := by unfold scF; rw [List.length_map]
theorem scf_app (a b : List Int) : scF (a ++ b) = scF a ++ scF b := by unfold scF; rw [List.map_append]
/-- A machine in a box of its own. -/
structure Boxed (w1 V : World) (p0 p1 p2 : Option Addr) (n c0 c1 c2 : Nat) (m : Mc) : Prop where
  bel : Below w1.heap.size w1 V
  mv : ∀ U, Below V.heap.size V U → MachV U p0 p1 p2 n n n m
  at_ : ∀ U, Below V.heap.size V U → U.cell? ⟨w1.heap.size, 0, none⟩ = some (.slice p0 n c0) ∧ U.cell? ⟨w1.heap.size, 1, none⟩ = some (.slice p1 n c1) ∧ U.cell? ⟨w1.heap.size, 2, none⟩ = some (.slice p2 n c2)
theorem boxed_of {w1 : World} {p0 p1 p2 : Option Addr} {n c0 c1 c2 : Nat} {m : Mc} (h : MachV w1 p0 p1 p2 n n n m) : Boxed w1 (w1.alloc (.cells #[.slice p0 n c0, .slice p1 n c1, .slice p2 n c2] 30)) p0 p1 p2 n c0 c1 c2 m := by
  have hb : Below w1.heap.size w1 (w1.alloc (.cells #[.slice p0 n c0, .slice p1 n c1, .slice p2 n c2] 30)) := (Below.refl _ _).alloc (Nat.le_refl _) _
  have x0 := heap_alloc_new w1 (.cells #[.slice p0 n c0, .slice p1 n c1, .slice p2 n c2] 30)
  exact ⟨hb, fun U hU => (h.step hb).step hU, fun U hU => (cells3 ((hU.block _ (Array.getElem?_eq_some_iff.1 x0).1).trans x0)).1⟩
end Go.Proofs.YtioahgklplbinaaDoor
