/- What the iterator of rows keeps on its stack: the mathematics, and the words for memory. -/
import Derived.Test.YtgaalkcociifmaaDoorSIt
import Derived.Test.YtgaalkcociifmaaDoorSRange
import Derived.Test.YtgaalkcociifmaaDoorOps
namespace Go.Proofs.YtgaalkcociifmaaDoor
open Go.RowKit Go.Shelf SeqM

theorem leaves_pos {n : Nat} {a b : Int} (hab : a ≤ b) : 1 ≤ (leaves n a b).length := by
  refine cut_ind' (n := n) (P := fun a b => 1 ≤ (leaves n a b).length) hab (fun a b _ hc => ?_) (fun a b x h1 h2 hc ih1 ih2 => ?_)
  · rw [leaves_none hc]; simp
  · rw [leaves_some (by omega) hc, List.length_append]; omega
theorem leaves_len {n : Nat} {a b : Int} (hab : a ≤ b) : ((leaves n a b).length : Int) ≤ b - a + 1 := by
  refine cut_ind' (n := n) (P := fun a b => ((leaves n a b).length : Int) ≤ b - a + 1) hab (fun a b _ hc => ?_) (fun a b x h1 h2 hc ih1 ih2 => ?_)
  · rw [leaves_none hc]; simp; omega
  · rw [leaves_some (by omega) hc, List.length_append]; push_cast; omega
/-- The pieces that a stack of parts of n bytes still holds. -/
def stL (n : Nat) (st : List Sp) : List Sp := st.reverse.flatMap fun s => leaves n s.1 s.2
theorem stL_nil (n : Nat) : stL n [] = [] := rfl
theorem stL_snoc (n : Nat) (st : List Sp) (t : Sp) : stL n (st ++ [t]) = leaves n t.1 t.2 ++ stL n st := by
  unfold stL; rw [List.reverse_append]; simp
theorem stL_cut {n : Nat} {t : Sp} {x : Int} (st : List Sp) (ht : t.1 ≤ t.2) (h : cutAt n t.1 t.2 = some x) : stL n (st ++ [(x, t.2), (t.1, x - 1)]) = stL n (st ++ [t]) := by
  rw [show st ++ [(x, t.2), (t.1, x - 1)] = (st ++ [(x, t.2)]) ++ [(t.1, x - 1)] from by simp, stL_snoc, stL_snoc, stL_snoc, leaves_some ht h, List.append_assoc]
theorem stL_leaf {n : Nat} {t : Sp} (st : List Sp) (h : cutAt n t.1 t.2 = none) : stL n (st ++ [t]) = t :: stL n st := by
  rw [stL_snoc, leaves_none h]; rfl
/-- How many rounds a stack takes. -/
def mea (n : Nat) (st : List Sp) : Nat := (st.map fun s => 2 * (leaves n s.1 s.2).length - 1).sum
theorem mea_snoc (n : Nat) (st : List Sp) (t : Sp) : mea n (st ++ [t]) = mea n st + (2 * (leaves n t.1 t.2).length - 1) := by
  simp [mea]
theorem mea_leaf {n : Nat} {t : Sp} (st : List Sp) (h : cutAt n t.1 t.2 = none) : mea n (st ++ [t]) = mea n st + 1 := by
  rw [mea_snoc, leaves_none h]; rfl
theorem mea_cut {n : Nat} {t : Sp} {x : Int} (st : List Sp) (ht : t.1 ≤ t.2) (h : cutAt n t.1 t.2 = some x) : mea n (st ++ [t]) = mea n (st ++ [(x, t.2), (t.1, x - 1)]) + 1 := by
  obtain ⟨h1, h2⟩ := cutAt_in ht h
  have p1 := leaves_pos (n := n) (a := t.1) (b := x - 1) (by omega)
  have p2 := leaves_pos (n := n) (a := x) (b := t.2) h2
  rw [show st ++ [(x, t.2), (t.1, x - 1)] = (st ++ [(x, t.2)]) ++ [(t.1, x - 1)] from by simp, mea_snoc, mea_snoc, mea_snoc, leaves_some ht h, List.length_append]
  simp only []
  omega
theorem mea_len (n : Nat) : ∀ (st : List Sp), (∀ s ∈ st, s.1 ≤ s.2) → st.length ≤ mea n st
  | [], _ => Nat.zero_le _
  | s :: t, h => by
    have h1 := mea_len n t (fun u hu => h u (by simp [hu]))
    have h2 := leaves_pos (n := n) (h s (by simp))
    have e : mea n (s :: t) = (2 * (leaves n s.1 s.2).length - 1) + mea n t := by simp [mea]
    rw [e, List.length_cons]; omega
theorem good_len {q : Nat × Sp} (h : SeqM.Good q) : (leaves q.1 q.2.1 q.2.2).length ≤ 1114112 := by
  obtain ⟨h1, h2, h3⟩ := SeqM.Good.in (n := q.1) (a := q.2.1) (b := q.2.2) h
  have := leaves_len (n := q.1) h2
  omega
theorem leavesP_len : ∀ (p : List (Nat × Sp)), (∀ q ∈ p, SeqM.Good q) → (leavesP p).length ≤ p.length * 1114112
  | [], _ => by simp [leavesP]
  | q :: t, h => by
    have h1 := leavesP_len t (fun u hu => h u (by simp [hu]))
    have h2 := good_len (h q (by simp))
    have e : leavesP (q :: t) = leaves q.1 q.2.1 q.2.2 ++ leavesP t := by unfold leavesP; rw [List.flatMap_cons]
    rw [e, List.length_append, List.length_cons, Nat.succ_mul]; omega
theorem leavesP_snoc (p : List (Nat × Sp)) (q : Nat × Sp) : leavesP (p ++ [q]) = leavesP p ++ leaves q.1 q.2.1 q.2.2 := by simp [leavesP]

/-! Words for memory. -/
theorem Kr.grown {n₀ B : Nat} {V W W' : World} {row : Option Nat} (h : Kr n₀ B V W) (hg : W.grownBy W' row) (hn : n₀ ≤ V.heap.size) (hr : ∀ r, row = some r → V.heap.size ≤ r) : Kr n₀ B V W' := by
  have keep : ∀ k o, V.heap[k]? = some o → W.heap[k]? = some o → W'.heap[k]? = some o := fun k o hk hw =>
    (hg.block k (Array.getElem?_eq_some_iff.1 hw).1 (fun e => by have := hr k e.symm; have := (Array.getElem?_eq_some_iff.1 hk).1; omega)).trans hw
  refine ⟨h.below.grown hg (Nat.le_trans hn h.below.size) (fun k e => Nat.le_trans hn (hr k e)), fun k cs t fr ht e => keep k _ e (h.cells k cs t fr ht e), ⟨Nat.le_trans h.keeps.size hg.size, fun k o hB hk ho => keep k o hk (h.keeps.same k o hB hk ho)⟩⟩
theorem Kr.alloc {n₀ B : Nat} {V W : World} (h : Kr n₀ B V W) (hn : n₀ ≤ V.heap.size) (o : Obj) : Kr n₀ B V (W.alloc o) := h.grown (World.grownBy_alloc W o none) hn (fun _ e => by cases e)
theorem Kr.step {n₀ B : Nat} {V W W' : World} (h : Kr n₀ B V W) (hn : n₀ ≤ V.heap.size) (hb : Below W.heap.size W W') : Kr n₀ B V W' := h.grown (below_grown hb) hn (fun _ e => by cases e)
theorem Kr.kp {n₀ B : Nat} {V W : World} (h : Kr n₀ B V W) : Kp n₀ V W := ⟨h.below, fun k cs fr e => h.cells k cs _ fr (.inl rfl) e⟩
/-- The stack without its last part. -/
theorem own_pop {W : World} {base g cap : Nat} {st : List Sp} {t : Sp} (h : W.ownsRow base 43 2 (.slice (some ⟨g, 0, none⟩) (st.length + 1) cap) (st.length + 1) (cellsS (st ++ [t]))) :
    W.ownsRow base 43 2 (.slice (some ⟨g, 0, none⟩) st.length cap) st.length (cellsS st) := by
  refine ⟨cellsS_len st, .inr ?_⟩
  rcases h.2 with ⟨e, _⟩ | ⟨g', cap', cur, e, hb, hg, h1, h2, h3, h4⟩
  · cases e
  · injection e with e1 e2 e3
    injection e1 with e1
    injection e1 with e1
    subst e1 e3
    refine ⟨_, _, cur, rfl, hb, hg, by omega, h2, h3, ?_⟩
    have h5 := congrArg (List.take (st.length * 2)) h4
    rw [List.take_take, show min (st.length * 2) ((st.length + 1) * 2) = st.length * 2 from by omega, cellsS_append, List.take_append_of_le_length (by rw [cellsS_len]; exact Nat.le_refl _), List.take_of_length_le (l := cellsS st) (by rw [cellsS_len]; exact Nat.le_refl _)] at h5
    exact h5
/-- Its last part. -/
theorem own_top {W : World} {base g cap : Nat} {st : List Sp} {t : Sp} (h : W.ownsRow base 43 2 (.slice (some ⟨g, 0, none⟩) (st.length + 1) cap) (st.length + 1) (cellsS (st ++ [t]))) :
    W.cell? ⟨g, st.length * 2, none⟩ = some (.int .i64 t.1) ∧ W.cell? ⟨g, st.length * 2 + 1, none⟩ = some (.int .i64 t.2) := by
  have e1 := h.cellAt (st.length * 2) (by omega)
  have e2 := h.cellAt (st.length * 2 + 1) (by omega)
  rw [cellsS_append, List.getElem?_append_right (by rw [cellsS_len]; omega), cellsS_len] at e1 e2
  rw [show st.length * 2 - st.length * 2 = 0 from by omega] at e1
  rw [show st.length * 2 + 1 - st.length * 2 = 1 from by omega] at e2
  exact ⟨e1, e2⟩
/-- Where the stack lies. -/
theorem own_at {W : World} {base g cap k : Nat} {xs : List Value} (h : W.ownsRow base 43 2 (.slice (some ⟨g, 0, none⟩) k cap) k xs) : base ≤ g ∧ ∃ cur, W.heap[g]? = some (.cells cur 43 (0, 0)) := by
  rcases h.2 with ⟨e, _⟩ | ⟨g', cap', cur, e, hb, hg, _⟩
  · cases e
  · injection e with e1
    injection e1 with e1
    injection e1 with e1
    subst e1
    exact ⟨hb, cur, hg⟩
/-- A stack's block lies on through what keeps all cells of spans. -/
theorem own_kr {n₀ B : Nat} {V W : World} {base g cap k : Nat} {xs : List Value} (hk : Kr n₀ B V W) (h : V.ownsRow base 43 2 (.slice (some ⟨g, 0, none⟩) k cap) k xs) : W.ownsRow base 43 2 (.slice (some ⟨g, 0, none⟩) k cap) k xs := by
  refine ⟨h.1, ?_⟩
  rcases h.2 with ⟨e, _⟩ | ⟨g', cap', cur, e, hb, hg, h1⟩
  · cases e
  · exact .inr ⟨g', cap', cur, e, hb, hk.cells _ _ _ _ (.inl rfl) hg, h1⟩

/-- A row that comes: its block, its room, its piece. -/
abbrev RowEl := Nat × Nat × SeqM.Sp
def rowE (x : RowEl) : Array Value := #[.slice (some ⟨x.1, 0, none⟩) (rowOf x.2.2).length x.2.1]
def RowIn (x : RowEl) (W : World) : Prop := W.heap[x.1]? = some (.cells (cellsR (rowOf x.2.2)).toArray 64 (0, 0))
end Go.Proofs.YtgaalkcociifmaaDoor
