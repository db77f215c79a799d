
/- slices.Concat at spans, set.Union. -/
import Derived.Test.YtkphbjppmiefkaaDoorOps
import Derived.Test.YtkphbjppmiefkaaDoorTRows
import Derived.Laws.AppendOwnNone
namespace Go.Proofs.YtkphbjppmiefkaaDoor
open Go.RowKit Go.Shelf SetM

theorem spans_news {n₀ : Nat} {W : World} {ad : Addr} {l : List Sp} (h : Spans n₀ W (some ad) l) : ∀ j u, (cellsS l)[j]? = some u → W.cell? (ad.add j) = some u := by
  intro j u hj
  have hlt : j < l.length * 2 := by
    rcases Nat.lt_or_ge j (l.length * 2) with h1 | h1
    · exact h1
    · rw [List.getElem?_eq_none (by rw [cellsS_len]; exact h1)] at hj; cases hj
  obtain ⟨b, off, e, _, hc⟩ := h (by intro h0; rw [h0] at hlt; simp at hlt)
  injection e with e
  subst e
  have hk : j / 2 < l.length := by omega
  have e1 : (⟨b, off, none⟩ : Addr).add j = ⟨b, off + j, none⟩ := by unfold Addr.add; split <;> simp_all
  rw [e1]
  rw [cellsS_get l j hlt, List.getElem?_eq_getElem hk] at hj
  obtain ⟨c0, c1⟩ := hc (j / 2) hk
  rcases Nat.mod_two_eq_zero_or_one j with h2 | h2
  · rw [h2] at hj
    simp [encS] at hj
    rw [show off + j = off + j / 2 * 2 from by omega, c0, hj]
  · rw [h2] at hj
    simp [encS] at hj
    rw [show off + j = off + j / 2 * 2 + 1 from by omega, c1, hj]
theorem one_cellsS (l : List Sp) : ∀ u ∈ cellsS l, u.oneCell' = true := by
  intro u hu
  obtain ⟨s, _, h⟩ := List.mem_flatMap.1 hu
  simp [encS] at h
  rcases h with rfl | rfl <;> rfl
/-- All the spans of some lists. -/
def flat (ls : List (List Sp)) : List Sp := ls.flatten
def total (ls : List (List Sp)) : Nat := (flat ls).length
theorem total_take (ls : List (List Sp)) (k : Nat) (hk : k < ls.length) : flat (ls.take (k + 1)) = flat (ls.take k) ++ ls[k] := by
  unfold flat
  rw [List.take_succ_eq_append_getElem hk, List.flatten_append]; simp only [List.flatten_cons, List.flatten_nil, List.append_nil]
theorem total_le (ls : List (List Sp)) (k : Nat) : (flat (ls.take k)).length ≤ total ls := by
  have : (ls.take k).flatten ++ (ls.drop k).flatten = ls.flatten := by rw [← List.flatten_append, List.take_append_drop]
  unfold total flat
  rw [← this, List.length_append]; omega

end Go.Proofs.YtkphbjppmiefkaaDoor
