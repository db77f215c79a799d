
/- set.Size: how many scalars spans tell. -/
import Derived.Test.YtkphbjppmiefkaaDoorOps
namespace Go.Proofs.YtkphbjppmiefkaaDoor
open Go.RowKit Go.Shelf SetM
attribute [local go_sem] Oper.semAt_some

/-- How many numbers a list of spans has, each span counted whole. -/
def sizeL (l : List Sp) : Int := (l.map fun s => s.2 - s.1 + 1).sum
theorem sizeL_append (a b : List Sp) : sizeL (a ++ b) = sizeL a + sizeL b := by simp [sizeL]
theorem sizeL_bound (pre : List End) : 0 ≤ sizeL (pre.map (·.1)) ∧ sizeL (pre.map (·.1)) ≤ 1114112 * pre.length := by
  induction pre with
  | nil => simp [sizeL]
  | cons x t ih =>
    obtain ⟨h1, h2, h3⟩ := x.2
    have : sizeL ((x :: t).map (·.1)) = (x.1.2 - x.1.1 + 1) + sizeL (t.map (·.1)) := by simp [sizeL]
    rw [this, List.length_cons]
    omega
/-- Spans of scalars alone are their own ends. -/
theorem endsOf_self (s : Sp) (h1 : s.1 ≤ s.2) (h : ∀ r, s.1 ≤ r → r ≤ s.2 → Sc r) : endsOf s = [s] := by
  have ha := h s.1 (Int.le_refl _) h1
  have hb := h s.2 h1 (Int.le_refl _)
  have hc : ¬ (s.1 ≤ 55296 ∧ 55296 ≤ s.2) := fun hh => by have := h 55296 hh.1 hh.2; unfold Sc at this; omega
  unfold Sc at ha hb
  obtain ⟨a, b⟩ := s
  dsimp only at *
  unfold endsOf
  dsimp only
  rcases ha with ha | ha
  · have hb2 : b ≤ 55295 := by omega
    rw [if_neg (by omega), if_pos (by omega), if_pos (by omega), show max a 0 = a from by omega, show min b 55295 = b from by omega]
    simp
  · rw [if_neg (by omega), if_neg (by omega), if_neg (by omega), if_pos (by omega), show max a 57344 = a from by omega, show min b 1114111 = b from by omega]
    simp
theorem nf_le {l : List Sp} (h : Nf l) : ∀ s ∈ l, s.1 ≤ s.2 := by
  induction l with
  | nil => simp
  | cons x t ih =>
    intro s hs
    rcases List.mem_cons.1 hs with rfl | hs
    · exact h.1
    · exact ih h.2.2 s hs
theorem endsL_self (l : List Sp) (hn : Nf l) (h : ∀ r, Mem l r → Sc r) : endsL l = l := by
  have : ∀ s ∈ l, endsOf s = [s] := fun s hs => endsOf_self s (nf_le hn s hs) (fun r h1 h2 => h r ⟨s, hs, h1, h2⟩)
  have key : ∀ m : List Sp, (∀ s ∈ m, endsOf s = [s]) → m.flatMap endsOf = m := by
    intro m
    induction m with
    | nil => simp
    | cons x t ih => intro hm; rw [List.flatMap_cons, hm x (by simp), ih (fun s hs => hm s (by simp [hs]))]; rfl
  exact key l this

theorem spansK_of {W : World} {base : Nat} {v : Value} {l : List Sp} (h : W.ownsRow base 42 2 v l.length (cellsS l)) : ∃ P c, v = .slice P l.length c ∧ ∀ n₀, SpansK n₀ W P l := by
  obtain ⟨P, c, hv, hs⟩ := spans_of h
  refine ⟨P, c, hv, fun n₀ hne => ?_⟩
  obtain ⟨b, off, e, _, hc⟩ := hs hne
  refine ⟨b, off, e, .inr ?_, hc⟩
  rcases h.2 with ⟨rfl, h0⟩ | ⟨g, cap, cur, rfl, hb, hg, _⟩
  · exact absurd (List.eq_nil_of_length_eq_zero h0) hne
  · injection hv with h1
    rw [e] at h1
    injection h1 with h1
    injection h1 with h1
    exact ⟨cur, _, by rw [← h1]; exact hg⟩

def SizePost (w : World) (xs : List Sp) (e : Ending) (w' : World) : Prop :=
  ∃ out, Nf out ∧ (∀ r, Mem out r ↔ Tells xs r) ∧ e = .returned (.int .i64 (sizeL out)) ∧ Below w.heap.size w w'

end Go.Proofs.YtkphbjppmiefkaaDoor
