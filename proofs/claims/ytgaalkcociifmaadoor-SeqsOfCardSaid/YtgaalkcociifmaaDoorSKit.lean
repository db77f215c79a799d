/- From a walk to a given row: two tables' ties, bytes opened. -/
import Derived.Test.YtgaalkcociifmaaDoorKit
import Derived.Test.YtgaalkcociifmaaDoorOpen
import Derived.Test.YtgaalkcociifmaaDoorOpenW
import Derived.Test.YtgaalkcociifmaaDoorSParts
import Derived.Test.YtgaalkcociifmaaDoorUWords
namespace Go.Proofs.YtgaalkcociifmaaDoor
open Go.ChangeShapes Go.WideShapes Go.ChangeAt Go.RowKit SetM
set_option maxRecDepth 100000

theorem cellsLens : Tryd.prog.cellsOf 91 = 8 := by kernel_rfl
/-- What the ties of the two tables give. -/
theorem tabs_of {W : World} {n1 n2 : String} (hn1 : Tryd.prog.globalNamed n1 = some 1) (hn2 : Tryd.prog.globalNamed n2 = some 0)
    (h : laidMet Tryd.prog [(n1, Rows.laid_glyphcutter_set_areas), (n2, Rows.laid_glyphcutter_seqs_lengths)] W) : (Areas W ∧ 1 < W.heap.size) ∧ Lens W ∧ 0 < W.heap.size := by
  obtain ⟨ps, ⟨g', t', cs, fuel, p, q, hg', ht', hvar, hd, ⟨g2, t2, cs2, fuel2, p2, q2, hg2, ht2, hvar2, hd2, _, _⟩, _⟩, _⟩ := h
  constructor
  · obtain rfl := Option.some.inj (hn1.symm.trans hg')
    have hty : (Tryd.prog.globals[1]?).map (·.type) = some 98 := by kernel_rfl
    obtain rfl := Option.some.inj (hty.symm.trans ht')
    obtain ⟨xs, m, _, hx, hl, hn, hel⟩ := DataW.trod_array Tryd.underlying98 hd
    rw [cellsAreas] at hl
    obtain ⟨l⟩ := cs
    match l, hl with
    | [c0, c1, c2, c3], _ =>
      match xs, hn with
      | [y0, y1], _ =>
        have h0 := hel 0 (by decide)
        have h1 := hel 1 (by decide)
        rw [cellsSpan] at h0 h1
        obtain ⟨a, b, e1, e2⟩ := span_cells h0
        obtain ⟨c, d, e3, e4⟩ := span_cells h1
        simp at e1 e3
        subst e2 e4
        simp [Rows.laid_glyphcutter_set_areas] at hx
        obtain ⟨⟨⟨rfl, rfl⟩, rfl, rfl⟩, _⟩ := hx
        obtain ⟨rfl, rfl⟩ := e1
        obtain ⟨rfl, rfl⟩ := e3
        have key := fun i => World.var?_cell hn1 hvar i
        refine ⟨⟨key 0, key 1, key 2, key 3⟩, ?_⟩
        have k0' : W.cell? ⟨1, 0, none⟩ = some (.int .i64 0) := key 0
        exact cell_in k0'
  · obtain rfl := Option.some.inj (hn2.symm.trans hg2)
    have hty : (Tryd.prog.globals[0]?).map (·.type) = some 91 := by kernel_rfl
    obtain rfl := Option.some.inj (hty.symm.trans ht2)
    obtain ⟨xs, m, _, hx, hl, hn, hel⟩ := DataW.trod_array Tryd.underlying91 hd2
    rw [cellsLens] at hl
    obtain ⟨l⟩ := cs2
    match l, hl with
    | [c0, c1, c2, c3, c4, c5, c6, c7], _ =>
      match xs, hn with
      | [y0, y1, y2, y3], _ =>
        have h0 := hel 0 (by decide)
        have h1 := hel 1 (by decide)
        have h2 := hel 2 (by decide)
        have h3 := hel 3 (by decide)
        rw [cellsSpan] at h0 h1 h2 h3
        obtain ⟨a, b, e1, e2⟩ := span_cells h0
        obtain ⟨c, d, e3, e4⟩ := span_cells h1
        obtain ⟨a2, b2, e5, e6⟩ := span_cells h2
        obtain ⟨c2', d2, e7, e8⟩ := span_cells h3
        simp at e1 e3 e5 e7
        subst e2 e4 e6 e8
        simp [Rows.laid_glyphcutter_seqs_lengths] at hx
        obtain ⟨⟨⟨rfl, rfl⟩, ⟨rfl, rfl⟩, ⟨rfl, rfl⟩, rfl, rfl⟩, _⟩ := hx
        obtain ⟨rfl, rfl⟩ := e1
        obtain ⟨rfl, rfl⟩ := e3
        obtain ⟨rfl, rfl⟩ := e5
        obtain ⟨rfl, rfl⟩ := e7
        have key := fun i => World.var?_cell hn2 hvar2 i
        refine ⟨⟨⟨key 0, key 1, key 2, key 3⟩, key 4, key 5, key 6, key 7⟩, ?_⟩
        have k0' : W.cell? ⟨0, 0, none⟩ = some (.int .i64 0) := key 0
        exact cell_in k0'
theorem cellsU8 : Tryd.prog.cellsOf 5 = 1 := by kernel_rfl
section
variable {H : Type} {enc : TypeId × Value → H} {W : World} {base : Nat}
theorem open_bytes {v : Value} {d : DataW H} {p : List MemPlace} (hv : Value.okWide Tryd.prog W .any base 30 v) (h : DataW.Trod enc Tryd.prog W 0 (fun _ => true) true 30 v d p) :
    ∃ A l ca, v = .slice A (List.length l) ca ∧ U.By W A l ∧ l.length ≤ ca ∧ (A = none → ca = 0) ∧ ca ≤ 9223372036854775807 := by
  obtain ⟨a0, len, cap, rfl⟩ := okWide_slice Tryd.underlying30 hv
  obtain ⟨fuel, hf⟩ := h
  rcases open_ints Tryd.underlying30 Tryd.underlying5 cellsU8 hf with ⟨hcs, _⟩ | ⟨a, len', cap', zs, hcs, _, hl, hm, hz, _, hcell, hwz⟩
  · simp [Value.cells] at hcs
    obtain ⟨rfl, rfl, rfl⟩ := hcs
    exact ⟨none, [], 0, rfl, U.By.nil, by simp, fun _ => rfl, by omega⟩
  · simp [Value.cells] at hcs
    obtain ⟨rfl, rfl, rfl⟩ := hcs
    simp only [if_true] at hz
    have hlt : (zs.take len).length = len := by simp; omega
    refine ⟨some a, zs.take len, cap, by rw [hlt], ⟨fun c hc => ?_, fun hne => ?_⟩, by omega, (fun h => by cases h), by unfold maxLen at hm; omega⟩
    · have := hwz c (List.mem_of_mem_take hc)
      simp [Lit.wf, IntKind.min, IntKind.max, IntKind.bits, IntKind.signed] at this
      omega
    · have hpos : 0 < len := by
        rcases Nat.eq_zero_or_pos len with h0 | h0
        · subst h0; simp at hne
        · exact h0
      obtain ⟨b, off, spot⟩ := a
      have hspot : spot = none := by simpa [Addr.add] using World.cell?_spot (hcell 0 (by omega))
      subst hspot
      have hb : b < W.heap.size := cell_in (hcell 0 (by omega))
      refine ⟨b, off, rfl, hb, fun j hj => ?_⟩
      have := hcell j (by omega)
      rw [add_plain] at this
      rw [this, List.getElem_take]
      simp [List.getD, show j < zs.length by omega]
end
/-- A world for the witness: both tables hold what their initialisers lay. -/
noncomputable def laidWorld2 (os : Os) : World :=
  { laidWorld os with heap := (laidWorld os).heap.modify 0 fun
      | .cells _ t frozen => .cells #[.int .i64 0, .int .i64 127, .int .i64 128, .int .i64 2047, .int .i64 2048, .int .i64 65535, .int .i64 65536, .int .i64 1114111] t frozen
      | o => o }
end Go.Proofs.YtgaalkcociifmaaDoor
