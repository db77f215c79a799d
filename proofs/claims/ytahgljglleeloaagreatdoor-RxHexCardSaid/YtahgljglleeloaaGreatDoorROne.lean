/- Sets of one scalar, or two: what the document's Has and Size say of them. -/
import Derived.Test.YtahgljglleeloaaGreatDoorRKnown
import Derived.Test.YtahgljglleeloaaGreatDoorRefC
namespace Go.Proofs.YtahgljglleeloaaGreatDoor
open Go.RowKit Go.Shelf Go.Maps SetM PropsM RxM

theorem sc_of {x : Int} (h : scB x = true) : Sc x := by unfold scB at h; simp only [decide_eq_true_eq] at h; unfold Sc; omega
theorem one_set {c : Int} (hc : Sc c) : IsSet [(c, c)] (Tells [(c, c)]) := by
  refine ⟨?_, fun r => ?_⟩
  · simp [Nf]
  · rw [show Tells [(c, c)] r ↔ (Sc r ∧ Mem [(c, c)] r) from Iff.rfl]
    constructor
    · intro h
      refine ⟨?_, h⟩
      simp [Mem] at h
      have : r = c := by omega
      rw [this]; exact hc
    · exact fun h => h.2
theorem one_is {sl : List Sp} {c : Int} (hc : Sc c) (h : IsSet sl (Tells [(c, c)])) : sl = [(c, c)] := h.eq (one_set hc) (fun _ => Iff.rfl)
theorem size_one {c : Int} (hc : Sc c) {W : World} {P : Option Addr} {d : Nat} (hs : Sl W P [(c, c)]) :
    Calls Tryz.prog 12 #[.slice P 1 d] W fun e W' => e = .returned (.int .i64 1) ∧ Below W.heap.size W W' := by
  have h := rsize_c (c := d) hs (by simp) (wide_set (one_set hc) (fun _ h => h.1))
  refine h.mono ?_
  rintro e W' ⟨out, h1, h2, rfl, b⟩
  have : out = [(c, c)] := nf_unique out _ h1 (one_set hc).1 (fun r => by rw [h2]; exact ((one_set hc).2 r).symm)
  subst this
  exact ⟨by simp [sizeL], b⟩
theorem has_one {c : Int} (hc : Sc c) {W : World} {P : Option Addr} {d : Nat} (hs : Sl W P [(c, c)]) :
    Calls Tryz.prog 11 #[.slice P 1 d, .int .i64 c] W fun e W' => e = .returned (.bool true) ∧ W = W' := by
  have h := rhas_any P d [(c, c)] c W hs (by simp)
  rw [show decide (Tells [(c, c)] c) = true from decide_eq_true ⟨hc, by simp [Mem]⟩] at h
  exact h
end Go.Proofs.YtahgljglleeloaaGreatDoor
