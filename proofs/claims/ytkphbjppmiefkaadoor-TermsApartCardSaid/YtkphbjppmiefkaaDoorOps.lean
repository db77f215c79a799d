
/- set.Norm, Inter, Minus, Not, by combine's contract. -/
import Derived.Test.YtkphbjppmiefkaaDoorComb
namespace Go.Proofs.YtkphbjppmiefkaaDoor
open Go.RowKit Go.Shelf SetM

theorem cellsS_get : ∀ (l : List Sp) (j : Nat), j < l.length * 2 → (cellsS l)[j]? = (encS (l[j / 2]?.getD default))[j % 2]?
  | [], j, h => by simp at h
  | m :: t, j, h => by
    have e : cellsS (m :: t) = encS m ++ cellsS t := rfl
    rw [e]
    by_cases hj : j < 2
    · rw [List.getElem?_append_left (by simpa [encS] using hj), Nat.div_eq_of_lt hj, Nat.mod_eq_of_lt hj]; simp
    · rw [List.getElem?_append_right (by simp [encS]; omega)]
      have h3 : (encS m).length = 2 := rfl
      rw [h3, cellsS_get t (j - 2) (by simp at h; omega), show j / 2 = (j - 2) / 2 + 1 from by omega, show (j - 2) % 2 = j % 2 from by omega]
      simp
/-- A slice of the call's own, read as spans. -/
theorem spans_of {W : World} {base : Nat} {v : Value} {l : List Sp} (h : W.ownsRow base 42 2 v l.length (cellsS l)) : ∃ P c, v = .slice P l.length c ∧ Spans W.heap.size W P l := by
  rcases h.2 with ⟨rfl, h0⟩ | ⟨g, cap, cur, rfl, hb, hg, h1, h2, h3, h4⟩
  · exact ⟨none, 0, by rw [h0], fun hne => absurd (List.eq_nil_of_length_eq_zero h0) hne⟩
  · refine ⟨_, cap, rfl, fun _ => ⟨g, 0, rfl, (Array.getElem?_eq_some_iff.1 hg).1, fun j hj => ?_⟩⟩
    have key : ∀ i, i < l.length * 2 → W.cell? ⟨g, i, none⟩ = (cellsS l)[i]? := fun i hi => by
      rw [cell_of_row W g i cur _ _ hg, ← h4, List.getElem?_take_of_lt hi, Array.getElem?_toList]
    have hd : ∀ i, i < 2 → W.cell? ⟨g, 0 + j * 2 + i, none⟩ = (encS l[j])[i]? := fun i hi => by
      rw [key _ (by omega), cellsS_get l _ (by omega), show (0 + j * 2 + i) / 2 = j from by omega, show (0 + j * 2 + i) % 2 = i from by omega, List.getElem?_eq_getElem hj]; rfl
    exact ⟨hd 0 (by omega), hd 1 (by omega)⟩
theorem SetPost.congr {w : World} {K K' : Int → Prop} {N N' : Nat} {e : Ending} {w' : World} (h : SetPost w K N e w') (hk : ∀ r, K r ↔ K' r) (hN : N ≤ N') : SetPost w K' N' e w' := by
  obtain ⟨v, out, h1, h2, h3, h4, h5⟩ := h
  exact ⟨v, out, h1, h2, fun r => (h3 r).trans (hk r), by omega, h5⟩
/-- What lies below w's own blocks is all that the caller may see of it. -/
theorem SetPost.lower {w w0 : World} {K : Int → Prop} {N : Nat} {e : Ending} {w' : World} (h : SetPost w K N e w') (hb : Below w0.heap.size w0 w) : SetPost w0 K N e w' := by
  obtain ⟨v, out, h1, h2, h3, h4, h5, h6⟩ := h
  exact ⟨v, out, h1, h2, h3, h4, own_lower h5 hb.size, hb.trans (h6.mono hb.size)⟩

theorem normF (x y : Bool) (W : World) : Calls Tryd.prog 43 #[.bool x, .bool y] W fun e w' => e = .returned (.bool x) ∧ W = w' := by
  go_enter Tryd.func43, Tryd.ntmps43
  go_wp2
  go_ret
  exact ⟨rfl, rfl⟩
/-- Norm: the set of what the spans tell. -/
theorem norm_any (A : Option Addr) (ca : Nat) (xs : List Sp) (hla : xs.length ≤ 1073741824) (w : World) (h0 : 0 < w.heap.size) (hA : Areas w) (hSa : Spans w.heap.size w A xs) :
    Calls Tryd.prog 26 #[.slice A xs.length ca] w (SetPost w (fun r => Tells xs r) (4 * xs.length)) := by
  have hc := combine_any A none ca 0 xs [] hla (by simp) 43 (fun x _ => x) normF (enters_of Tryd.func43 (by kernel_rfl) rfl) rfl w h0 hA hSa Spans.nil
  have HC := Lib.hid hc
  clear hc hA hSa
  go_enter Tryd.func26, Tryd.ntmps26
  go_wp2_with (go_at_call 42; refine HC.out.mono ?_; rintro e w' ⟨v, out, rfl, h2, h3, h4, h5, h6⟩)
  go_ret
  exact ⟨v, out, rfl, h2, fun r => (h3 r).trans (by simp), by simpa using h4, h5, h6⟩
end Go.Proofs.YtkphbjppmiefkaaDoor
