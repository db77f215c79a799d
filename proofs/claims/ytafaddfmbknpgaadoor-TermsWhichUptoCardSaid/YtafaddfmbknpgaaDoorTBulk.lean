/- What bulk bounds; spans opened with their bulk. -/
import Derived.Test.YtafaddfmbknpgaaDoorTOpen
import Derived.Test.YtafaddfmbknpgaaDoorTWhich
import Derived.Test.YtafaddfmbknpgaaDoorRows
namespace Go.Proofs.YtafaddfmbknpgaaDoor
open Go.ChangeShapes Go.WideShapes Go.ChangeAt Go.RowKit SetM TermsM
set_option maxRecDepth 100000
section
variable {H : Type} {enc : TypeId × Value → H} {W : World} {base : Nat}
theorem bulk_pos (d : DataW H) : 1 ≤ Rows.uptoBulk d := by
  cases d with
  | lit l => cases l <;> simp [Rows.uptoBulk]
  | _ => simp [Rows.uptoBulk]
theorem bulk_all (l : List (DataW H)) : l.length ≤ Rows.uptoBulkAll l := by
  induction l with
  | nil => simp [Rows.uptoBulkAll]
  | cons x r ih =>
    have := bulk_pos x
    simp only [Rows.uptoBulkAll, List.length_cons]
    omega
theorem bulk_of_len {e : DataW H} {n : Nat} (h : LenOf e n) : 1 + n ≤ Rows.uptoBulk e := by
  rcases h with rfl | ⟨el, sp, rfl, rfl⟩
  · exact bulk_pos e
  · have := bulk_all el
    simp only [Rows.uptoBulk]
    omega
theorem bulk_rows : ∀ (ls : List (List Sp)) (es : List (DataW H)), (∀ j (h : j < ls.length), ∃ e, es[j]? = some e ∧ LenOf e ls[j].length) → sumL ls ≤ Rows.uptoBulkAll es
  | [], es, _ => by simp [sumL]
  | a :: t, [], h => by
    obtain ⟨e, he, _⟩ := h 0 (by simp)
    simp at he
  | a :: t, e :: es, h => by
    have h1 := bulk_rows t es (fun j hj => by
      obtain ⟨e', he, hl⟩ := h (j + 1) (by rw [List.length_cons]; omega)
      exact ⟨e', by rw [List.getElem?_cons_succ] at he; exact he, hl⟩)
    obtain ⟨e', he, hl⟩ := h 0 (by simp)
    obtain rfl : e = e' := by simpa using he
    have h2 : 1 + a.length ≤ Rows.uptoBulk e := bulk_of_len hl
    have hs : sumL (a :: t) = 1 + a.length + sumL t := by simp [sumL]
    simp only [Rows.uptoBulkAll]
    omega
theorem Opened.bulk {d : DataW H} {A : Option Addr} {ls : List (List Sp)} (h : Opened W d A ls) : sumL ls ≤ Rows.uptoBulk d := by
  rcases h.lens with rfl | ⟨es, sp, rfl, hl⟩
  · simp [sumL]
  · have := bulk_rows ls es hl
    simp only [Rows.uptoBulk]
    omega
theorem open_spansB {v : Value} {d : DataW H} {p : List MemPlace} (hv : Value.okWide Tryd.prog W .any base 28 v) (h : DataW.Trod enc Tryd.prog W 0 (fun _ => true) true 28 v d p) :
    ∃ A l ca, v = .slice A (List.length l) ca ∧ Sl0 W A l ∧ Wide l ∧ l.length ≤ Rows.uptoBulk d := by
  obtain ⟨a0, len, cap, rfl⟩ := okWide_slice Tryd.underlying28 hv
  obtain ⟨fuel, hf⟩ := h
  obtain ⟨A, l, ca, e, h1, h2, h3, h4⟩ := spans_trod hf
  simp [Value.cells] at e
  obtain ⟨rfl, rfl, rfl⟩ := e
  have h5 : 1 + l.length ≤ Rows.uptoBulk d := bulk_of_len h4
  exact ⟨_, l, _, rfl, h1, h3, by omega⟩
end
end Go.Proofs.YtafaddfmbknpgaaDoor
