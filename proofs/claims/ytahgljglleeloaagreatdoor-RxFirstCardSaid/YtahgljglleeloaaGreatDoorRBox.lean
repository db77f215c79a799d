/- A variable that holds a node: five cells. -/
import Derived.Test.YtahgljglleeloaaGreatDoorSA
namespace Go.Proofs.YtahgljglleeloaaGreatDoor
open Go.RowKit Go.Shelf SetM

theorem heap_setC (W : World) (R : Nat) (cs : Array Value) (t : TypeId) (h : W.heap[R]? = some (.cells cs t (0, 0))) (i : Nat) (v : Value) : (W.setCell ⟨R, i, none⟩ v).heap[R]? = some (.cells (cs.set! i v) t (0, 0)) := by
  obtain ⟨hlt, hk⟩ := Array.getElem?_eq_some_iff.1 h
  show (W.heap.modify R _)[R]? = _
  rw [Array.getElem?_eq_getElem (by rw [Array.size_modify]; exact hlt), Array.getElem_modify_self, hk]
  rfl
/-- Block B is a variable of five cells. -/
def B5 (W : World) (B : Nat) : Prop := ∃ x0 x1 x2 x3 x4, W.heap[B]? = some (.cells #[x0, x1, x2, x3, x4] 27 (0, 0))
theorem B5.new (W : World) (x0 x1 x2 x3 x4 : Value) : B5 (W.alloc (.cells #[x0, x1, x2, x3, x4] 27)) W.heap.size := ⟨x0, x1, x2, x3, x4, heap_alloc_new W _⟩
theorem B5.lt {W : World} {B : Nat} (h : B5 W B) : B < W.heap.size := by obtain ⟨_, _, _, _, _, h⟩ := h; exact (Array.getElem?_eq_some_iff.1 h).1
theorem B5.cells {W : World} {B : Nat} (h : B5 W B) : (∃ x0 x1 x2 x3 x4, W.cell? ⟨B, 0, none⟩ = some x0 ∧ W.cell? ⟨B, 1, none⟩ = some x1 ∧ W.cell? ⟨B, 2, none⟩ = some x2 ∧ W.cell? ⟨B, 3, none⟩ = some x3 ∧ W.cell? ⟨B, 4, none⟩ = some x4) ∧
    W.frozen? ⟨B, 0, none⟩ = false ∧ W.frozen? ⟨B, 1, none⟩ = false ∧ W.frozen? ⟨B, 2, none⟩ = false ∧ W.frozen? ⟨B, 3, none⟩ = false ∧ W.frozen? ⟨B, 4, none⟩ = false := by
  obtain ⟨x0, x1, x2, x3, x4, h⟩ := h
  have hc : ∀ i, W.cell? ⟨B, i, none⟩ = (#[x0, x1, x2, x3, x4] : Array Value)[i]? := fun i => cell_of_row W B i _ _ _ h
  have hz : ∀ i, W.frozen? ⟨B, i, none⟩ = false := fun i => by simp [World.frozen?, h]
  exact ⟨⟨x0, x1, x2, x3, x4, hc 0, hc 1, hc 2, hc 3, hc 4⟩, hz 0, hz 1, hz 2, hz 3, hz 4⟩
/-- The variable has been written. -/
def put5 (W : World) (B : Nat) (a b c d e : Value) : World := ((((W.setCell ⟨B, 0, none⟩ a).setCell ⟨B, 1, none⟩ b).setCell ⟨B, 2, none⟩ c).setCell ⟨B, 3, none⟩ d).setCell ⟨B, 4, none⟩ e
theorem put5_size (W : World) (B : Nat) (a b c d e : Value) : (put5 W B a b c d e).heap.size = W.heap.size := by
  unfold put5
  simp only [World.size_setCell]
theorem put5_block (W : World) (B : Nat) (a b c d e : Value) (k : Nat) (h : k ≠ B) : (put5 W B a b c d e).heap[k]? = W.heap[k]? := by
  unfold put5
  rw [Below.heap_setCell _ _ _ k h, Below.heap_setCell _ _ _ k h, Below.heap_setCell _ _ _ k h, Below.heap_setCell _ _ _ k h, Below.heap_setCell _ _ _ k h]
theorem put5_below {W W0 : World} {B n : Nat} (a b c d e : Value) (h : Below n W0 W) (hB : n ≤ B) : Below n W0 (put5 W B a b c d e) :=
  ((((h.setCell (p := ⟨B, 0, none⟩) hB a).setCell (p := ⟨B, 1, none⟩) hB b).setCell (p := ⟨B, 2, none⟩) hB c).setCell (p := ⟨B, 3, none⟩) hB d).setCell (p := ⟨B, 4, none⟩) hB e
theorem put5_b5 {W : World} {B : Nat} (a b c d e : Value) (h : B5 W B) : (put5 W B a b c d e).heap[B]? = some (.cells #[a, b, c, d, e] 27 (0, 0)) := by
  obtain ⟨x0, x1, x2, x3, x4, h⟩ := h
  have h1 := heap_setC W B _ _ h 0 a
  have h2 := heap_setC _ B _ _ h1 1 b
  have h3 := heap_setC _ B _ _ h2 2 c
  have h4 := heap_setC _ B _ _ h3 3 d
  exact heap_setC _ B _ _ h4 4 e

theorem sizeN : (Tryz.prog.info? 27).map (·.size) = some 5 := by kernel_rfl
/-- The way out of a call that hands back a node. -/
theorem ret_node {fn : Func} {p : Tmp} {Q : Ending → World → Prop} {tmps : Array Value} {w1 : World} {B : Nat} {a b c d e : Value} (hf : fn.results = #[.cell p 27]) (hp : tmps.getD p undef = .pointer (some ⟨B, 0, none⟩))
    (h5 : B5 w1 B) (hQ : Q (.returned (.agg #[a, b, c, d, e])) (put5 w1 B a b c d e)) :
    bodyPost Tryz.prog fn Q .ret { tmps := tmps, defers := [] } (((((w1.setCell ⟨B, 0, none⟩ a).setCell ⟨B, 1, none⟩ b).setCell ⟨B, 2, none⟩ c).setCell ⟨B, 3, none⟩ d).setCell ⟨B, 4, none⟩ e) :=
  bodyPost_ret (results_cell_row hf tmps _ B _ #[a, b, c, d, e] (0, 0) _ hp (put5_b5 a b c d e h5) Tryz.underlying27 rfl sizeN) rfl hQ

end Go.Proofs.YtahgljglleeloaaGreatDoor
