/- From a walk to a given row: the ties of the two tables, fold.runs and set.areas. -/
import Derived.Test.YtmmghgfkpndokaaDoorKit
import Derived.Test.YtmmghgfkpndokaaDoorOpen
import Derived.Test.YtmmghgfkpndokaaDoorFRuns
namespace Go.Proofs.YtmmghgfkpndokaaDoor
open Go.ChangeShapes Go.WideShapes Go.ChangeAt Go.RowKit SetM
set_option maxRecDepth 100000

theorem cellsRn : Tryd.prog.cellsOf 46 = 3 := by kernel_rfl
theorem cellsRuns : Tryd.prog.cellsOf 47 = 39 := by kernel_rfl
section
variable {H : Type} {enc : TypeId × Value → H}
def dataR (u : Rn) : DataW H := .agg [.lit (.int .i64 u.1), .lit (.int .i64 u.2.1), .lit (.int .i64 u.2.2)]
theorem laid_runs : (Rows.laid_glyphcutter_fold_runs : DataW H) = .agg (runsL.map dataR) := rfl
/-- A run's cells, off its reading. -/
theorem run_cells {W : World} {base : Nat} {spare : Nat → Bool} {held : Bool} {fuel : Nat} {cs : List Value} {x : DataW H × List MemPlace} (h : DataW.trod enc Tryd.prog W base spare held fuel 46 cs = some x) :
    ∃ u : Rn, cs = encM u ∧ x.1 = dataR u := by
  obtain ⟨xs, n, _, hx, hl, hn, hf⟩ := DataW.trod_struct Tryd.underlying46 h
  rw [cellsRn] at hl
  match cs, hl with
  | [c0, c1, c2], _ =>
    match xs, hn with
    | [y0, y1, y2], _ =>
      have h0 : DataW.trod enc Tryd.prog W base spare held n 3 (([c0, c1, c2].drop 0).take (Tryd.prog.cellsOf 3)) = some y0 := hf 0 _ rfl
      have h1 : DataW.trod enc Tryd.prog W base spare held n 3 (([c0, c1, c2].drop 1).take (Tryd.prog.cellsOf 3)) = some y1 := hf 1 _ rfl
      have h2 : DataW.trod enc Tryd.prog W base spare held n 3 (([c0, c1, c2].drop 2).take (Tryd.prog.cellsOf 3)) = some y2 := hf 2 _ rfl
      rw [cellsInt] at h0 h1 h2
      obtain ⟨a, ha, ha2, _⟩ := DataW.trod_int Tryd.underlying3 h0
      obtain ⟨b, hb, hb2, _⟩ := DataW.trod_int Tryd.underlying3 h1
      obtain ⟨c, hc, hc2, _⟩ := DataW.trod_int Tryd.underlying3 h2
      simp at ha hb hc
      subst ha hb hc ha2 hb2 hc2
      exact ⟨(a, b, c), rfl, by rw [hx]; rfl⟩
theorem dataR_inj {u v : Rn} (h : (dataR u : DataW H) = dataR v) : u = v := by
  obtain ⟨a, b, c⟩ := u
  obtain ⟨a', b', c'⟩ := v
  simp [dataR] at h
  obtain ⟨rfl, rfl, rfl⟩ := h
  rfl
end
theorem runs_enc (i : Nat) (hi : i < 39) : (cellsM runsL)[i]? = some (.int .i64 (runNums[i]'(by simpa [runNums] using hi))) := by
  have e : cellsM runsL = runNums.map (Value.int .i64) := rfl
  rw [e, List.getElem?_map, List.getElem?_eq_getElem (by simpa [runNums] using hi)]; rfl
/-- What the ties of the two tables give. -/
theorem tabs_of {W : World} {n1 n2 : String} (hn1 : Tryd.prog.globalNamed n1 = some 1) (hn2 : Tryd.prog.globalNamed n2 = some 0)
    (h : laidMet Tryd.prog [(n1, Rows.laid_glyphcutter_set_areas), (n2, Rows.laid_glyphcutter_fold_runs)] W) : (Areas W ∧ 1 < W.heap.size) ∧ Runs W ∧ 0 < W.heap.size := by
  obtain ⟨ps, ⟨g', t', cs, fuel, p, q, hg', ht', hvar, hd, ⟨g2, t2, cs2, fuel2, p2, q2, hg2, ht2, hvar2, hd2, _, _⟩, _⟩, _⟩ := h
  constructor
  · obtain rfl := Option.some.inj (hn1.symm.trans hg')
    have hty : (Tryd.prog.globals[1]?).map (·.type) = some 75 := by kernel_rfl
    obtain rfl := Option.some.inj (hty.symm.trans ht')
    obtain ⟨xs, m, _, hx, hl, hn, hel⟩ := DataW.trod_array Tryd.underlying75 hd
    rw [cellsAreas] at hl
    obtain ⟨l⟩ := cs
    match l, hl with
    | [c0, c1, c2, c3], _ =>
      match xs, hn with
      | [y0, y1], _ =>
        have h0 := hel 0 (by decide)
        have h1 := hel 1 (by decide)
        rw [cellsSpan] at h0 h1
        obtain ⟨a, b, e1, e2⟩ := span_cells h0
        obtain ⟨c, d, e3, e4⟩ := span_cells h1
        simp at e1 e3
        subst e2 e4
        simp [Rows.laid_glyphcutter_set_areas] at hx
        obtain ⟨⟨⟨rfl, rfl⟩, rfl, rfl⟩, _⟩ := hx
        obtain ⟨rfl, rfl⟩ := e1
        obtain ⟨rfl, rfl⟩ := e3
        have key := fun i => World.var?_cell hn1 hvar i
        refine ⟨⟨key 0, key 1, key 2, key 3⟩, ?_⟩
        have k0' : W.cell? ⟨1, 0, none⟩ = some (.int .i64 0) := key 0
        exact cell_in k0'
  · obtain rfl := Option.some.inj (hn2.symm.trans hg2)
    have hty : (Tryd.prog.globals[0]?).map (·.type) = some 47 := by kernel_rfl
    obtain rfl := Option.some.inj (hty.symm.trans ht2)
    obtain ⟨xs, m, _, hx, hl, hn, hel⟩ := DataW.trod_array Tryd.underlying47 hd2
    rw [laid_runs] at hx
    have hxs : xs.map (·.1) = runsL.map dataR := by
      have := congrArg Prod.fst hx
      injection this with this
      exact this.symm
    have key := fun i => World.var?_cell hn2 hvar2 i
    have hall : ∀ j, j < 39 → cs2[j]? = (cellsM runsL)[j]? := fun j hj => by
      have hi : j / 3 < 13 := by omega
      have h1 := hel (j / 3) hi
      rw [cellsRn, List.getElem?_eq_getElem (by omega)] at h1
      obtain ⟨u, e1, e2⟩ := run_cells h1
      have h2 : (xs.map (·.1))[j / 3]? = some (dataR u) := by rw [List.getElem?_map, List.getElem?_eq_getElem (by omega)]; exact congrArg some e2
      rw [hxs, List.getElem?_map, List.getElem?_eq_getElem (by exact hi)] at h2
      have h3 : runsL[j / 3]'(by exact hi) = u := dataR_inj (Option.some.inj h2)
      have h5 : runsL[j / 3]?.getD default = runsL[j / 3]'(by exact hi) := by rw [List.getElem?_eq_getElem (by exact hi)]; rfl
      rw [cellsM_get runsL j (by show j < 13 * 3; omega), h5]
      have h4 : (encM u)[j % 3]? = cs2[j]? := by
        rw [← e1, List.getElem?_take_of_lt (by omega), List.getElem?_drop, show j / 3 * 3 + j % 3 = j from by omega, Array.getElem?_toList]
      rw [← h4, ← h3]
    have hR : Runs W := fun i hi => by
      have := key i
      rw [hall i hi, runs_enc i hi] at this
      exact this
    exact ⟨hR, cell_in (hR 0 (by decide))⟩
/-- A world for the witness: both tables hold what their initialisers lay. -/
noncomputable def laidWorld2 (os : Os) : World :=
  { laidWorld os with heap := (laidWorld os).heap.modify 0 fun
      | .cells _ t frozen => .cells #[.int .i64 65, .int .i64 90, .int .i64 97, .int .i64 181, .int .i64 181, .int .i64 956, .int .i64 192, .int .i64 214, .int .i64 224, .int .i64 216, .int .i64 222, .int .i64 248, .int .i64 913, .int .i64 929, .int .i64 945, .int .i64 931, .int .i64 937, .int .i64 963, .int .i64 962, .int .i64 962, .int .i64 963, .int .i64 1024, .int .i64 1039, .int .i64 1104, .int .i64 1040, .int .i64 1071, .int .i64 1072, .int .i64 7838, .int .i64 7838, .int .i64 223, .int .i64 8486, .int .i64 8486, .int .i64 969, .int .i64 8490, .int .i64 8490, .int .i64 107, .int .i64 8491, .int .i64 8491, .int .i64 229] t frozen
      | o => o }
end Go.Proofs.YtmmghgfkpndokaaDoor
