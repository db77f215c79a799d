/- set.combine: the set of the scalars that keep wants. -/
import Derived.Test.YtioahgklplbinaaDoorSM
import Derived.RegionTactic
import Derived.ChangeAlike
import Derived.Deep.LoopGhost
import Derived.Deep.QuietTactic
import Derived.BigQuiet
namespace Go.Proofs.YtioahgklplbinaaDoor
open Go.RowKit Go.Shelf SetM

/-- A span's two cells; a list's. -/
def encS (s : Sp) : List Value := [.int .i64 s.1, .int .i64 s.2]
def cellsS (l : List Sp) : List Value := l.flatMap encS
theorem cellsS_append (a b : List Sp) : cellsS (a ++ b) = cellsS a ++ cellsS b := by simp [cellsS]
theorem cellsS_len (l : List Sp) : (cellsS l).length = l.length * 2 := by
  induction l with
  | nil => rfl
  | cons m t ih =>
    have : cellsS (m :: t) = encS m ++ cellsS t := rfl
    rw [this, List.length_append, ih]; simp [encS]; omega
theorem infoS : (Tryd.prog.info? 52).map (fun i => (i.zero, i.size, i.bytes)) = some (some (.agg #[.int .i64 0, .int .i64 0]), 2, 16) := by kernel_rfl

/-- What one of set's calls hands back: a new slice that holds the normal list of a condition on numbers. -/
def SetPost (w : World) (K : Int → Prop) (N : Nat) (e : Ending) (w' : World) : Prop :=
  ∃ (v : Value) (out : List Sp), e = .returned v ∧ Nf out ∧ (∀ r, Mem out r ↔ K r) ∧ out.length ≤ N ∧ w'.ownsRow w.heap.size 52 2 v out.length (cellsS out) ∧ Below w.heap.size w w'

theorem own_lower {w : World} {base base' : Nat} {e : TypeId} {size : Nat} {v : Value} {n : Nat} {xs : List Value} (h : w.ownsRow base e size v n xs) (hb : base' ≤ base) : w.ownsRow base' e size v n xs := by
  refine ⟨h.1, ?_⟩
  rcases h.2 with h0 | ⟨g, cap, cur, h1, h2, h3⟩
  · exact .inl h0
  · exact .inr ⟨g, cap, cur, h1, Nat.le_trans hb h2, h3⟩

end Go.Proofs.YtioahgklplbinaaDoor
