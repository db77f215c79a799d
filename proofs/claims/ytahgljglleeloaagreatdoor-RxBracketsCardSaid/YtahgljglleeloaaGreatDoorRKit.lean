/- From a walk to a given row of chapter 6: what the ties of the tables give; a world in which they lie; bytes that came in. -/
import Derived.Test.YtahgljglleeloaaGreatDoorKit
import Derived.Test.YtahgljglleeloaaGreatDoorFA
import Derived.Test.YtahgljglleeloaaGreatDoorSB
import Derived.Stop.LaidErr
namespace Go.Proofs.YtahgljglleeloaaGreatDoor
open Go.ChangeShapes Go.WideShapes Go.ChangeAt Go.RowKit SetM
set_option maxRecDepth 100000

/-- The blocks behind the program's own: the two errors' texts. -/
noncomputable def low : Nat := (World.holding Tryz.prog default ⟨#[], #[], []⟩).heap.size
/-- A world for the witness: all tables hold what their initialisers lay. -/
noncomputable def laidWorld7 (os : Os) : World :=
  let w0 := World.holding Tryz.prog os ⟨#[.cells #[.string ⟨#[118, 97, 108, 117, 101, 32, 111, 117, 116, 32, 111, 102, 32, 114, 97, 110, 103, 101]⟩] 221, .cells #[.string ⟨#[105, 110, 118, 97, 108, 105, 100, 32, 115, 121, 110, 116, 97, 120]⟩] 221], #[], []⟩
  let h := w0.heap
  let h := h.modify 6 fun
      | .cells _ t frozen => .cells #[.int .u8 0, .int .u8 1, .int .u8 28, .int .u8 2, .int .u8 29, .int .u8 14, .int .u8 24, .int .u8 3, .int .u8 30, .int .u8 22, .int .u8 20, .int .u8 15, .int .u8 25, .int .u8 17, .int .u8 4, .int .u8 8, .int .u8 31, .int .u8 27, .int .u8 13, .int .u8 23, .int .u8 21, .int .u8 19, .int .u8 16, .int .u8 7, .int .u8 26, .int .u8 12, .int .u8 18, .int .u8 6, .int .u8 11, .int .u8 5, .int .u8 10, .int .u8 9] t frozen
      | o => o
  let h := h.modify 7 fun
      | .cells _ t frozen => .cells #[.int .u8 0, .int .u8 1, .int .u8 56, .int .u8 2, .int .u8 57, .int .u8 49, .int .u8 28, .int .u8 3, .int .u8 61, .int .u8 58, .int .u8 42, .int .u8 50, .int .u8 38, .int .u8 29, .int .u8 17, .int .u8 4, .int .u8 62, .int .u8 47, .int .u8 59, .int .u8 36, .int .u8 45, .int .u8 43, .int .u8 51, .int .u8 22, .int .u8 53, .int .u8 39, .int .u8 33, .int .u8 30, .int .u8 24, .int .u8 18, .int .u8 12, .int .u8 5, .int .u8 63, .int .u8 55, .int .u8 48, .int .u8 27, .int .u8 60, .int .u8 41, .int .u8 37, .int .u8 16, .int .u8 46, .int .u8 35, .int .u8 44, .int .u8 21, .int .u8 52, .int .u8 32, .int .u8 23, .int .u8 11, .int .u8 54, .int .u8 26, .int .u8 40, .int .u8 15, .int .u8 34, .int .u8 20, .int .u8 31, .int .u8 10, .int .u8 25, .int .u8 14, .int .u8 19, .int .u8 9, .int .u8 13, .int .u8 8, .int .u8 7, .int .u8 6] t frozen
      | o => o
  let h := h.modify 5 fun
      | .cells _ t frozen => .cells #[.int .u64 1, .int .u64 10, .int .u64 100, .int .u64 1000, .int .u64 10000, .int .u64 100000, .int .u64 1000000, .int .u64 10000000, .int .u64 100000000, .int .u64 1000000000, .int .u64 10000000000, .int .u64 100000000000, .int .u64 1000000000000, .int .u64 10000000000000, .int .u64 100000000000000, .int .u64 1000000000000000, .int .u64 10000000000000000, .int .u64 100000000000000000, .int .u64 1000000000000000000, .int .u64 10000000000000000000] t frozen
      | o => o
  let h := h.modify 2 fun
      | .cells _ t frozen => .cells #[.int .i64 0, .int .i64 55295, .int .i64 57344, .int .i64 1114111] t frozen
      | o => o
  let h := h.modify 1 fun
      | .cells _ t frozen => .cells #[.int .i64 65, .int .i64 90, .int .i64 97, .int .i64 181, .int .i64 181, .int .i64 956, .int .i64 192, .int .i64 214, .int .i64 224, .int .i64 216, .int .i64 222, .int .i64 248, .int .i64 913, .int .i64 929, .int .i64 945, .int .i64 931, .int .i64 937, .int .i64 963, .int .i64 962, .int .i64 962, .int .i64 963, .int .i64 1024, .int .i64 1039, .int .i64 1104, .int .i64 1040, .int .i64 1071, .int .i64 1072, .int .i64 7838, .int .i64 7838, .int .i64 223, .int .i64 8486, .int .i64 8486, .int .i64 969, .int .i64 8490, .int .i64 8490, .int .i64 107, .int .i64 8491, .int .i64 8491, .int .i64 229] t frozen
      | o => o
  let h := h.modify 4 fun
      | .cells _ t frozen => .cells #[.iface 219 (.pointer (some ⟨low, 0, none⟩))] t frozen
      | o => o
  let h := h.modify 3 fun
      | .cells _ t frozen => .cells #[.iface 219 (.pointer (some ⟨low + 1, 0, none⟩))] t frozen
      | o => o
  { w0 with heap := h }

theorem laid_met7 (os : Os) (args : Array Value) : laidMet Tryz.prog Rows.rxPlainRow.laid ((laidWorld7 os).forCall (fun _ _ => 0) ⟨#[], args, []⟩).memory :=
  laidMet_of_run' 8 (by kernel_rfl) (by kernel_rfl)
theorem cellsRn : Tryz.prog.cellsOf 133 = 3 := by kernel_rfl
theorem cellsRuns : Tryz.prog.cellsOf 148 = 39 := by kernel_rfl
section
variable {H : Type} {enc : TypeId × Value → H}
def dataR (u : Rn) : DataW H := .agg [.lit (.int .i64 u.1), .lit (.int .i64 u.2.1), .lit (.int .i64 u.2.2)]
theorem laid_runs : (Rows.laid_glyphcutter_fold_runs : DataW H) = .agg (runsL.map dataR) := rfl
/-- A run's cells, off its reading. -/
theorem run_cells {W : World} {base : Nat} {spare : Nat → Bool} {held : Bool} {fuel : Nat} {cs : List Value} {x : DataW H × List MemPlace} (h : DataW.trod enc Tryz.prog W base spare held fuel 133 cs = some x) :
    ∃ u : Rn, cs = encM u ∧ x.1 = dataR u := by
  obtain ⟨xs, n, _, hx, hl, hn, hf⟩ := DataW.trod_struct Tryz.underlying133 h
  rw [cellsRn] at hl
  match cs, hl with
  | [c0, c1, c2], _ =>
    match xs, hn with
    | [y0, y1, y2], _ =>
      have h0 : DataW.trod enc Tryz.prog W base spare held n 3 (([c0, c1, c2].drop 0).take (Tryz.prog.cellsOf 3)) = some y0 := hf 0 _ rfl
      have h1 : DataW.trod enc Tryz.prog W base spare held n 3 (([c0, c1, c2].drop 1).take (Tryz.prog.cellsOf 3)) = some y1 := hf 1 _ rfl
      have h2 : DataW.trod enc Tryz.prog W base spare held n 3 (([c0, c1, c2].drop 2).take (Tryz.prog.cellsOf 3)) = some y2 := hf 2 _ rfl
      rw [cellsInt] at h0 h1 h2
      obtain ⟨a, ha, ha2, _⟩ := DataW.trod_int Tryz.underlying3 h0
      obtain ⟨b, hb, hb2, _⟩ := DataW.trod_int Tryz.underlying3 h1
      obtain ⟨c, hc, hc2, _⟩ := DataW.trod_int Tryz.underlying3 h2
      simp at ha hb hc
      subst ha hb hc ha2 hb2 hc2
      exact ⟨(a, b, c), rfl, by rw [hx]; rfl⟩
theorem dataR_inj {u v : Rn} (h : (dataR u : DataW H) = dataR v) : u = v := by
  obtain ⟨a, b, c⟩ := u
  obtain ⟨a', b', c'⟩ := v
  simp [dataR] at h
  obtain ⟨rfl, rfl, rfl⟩ := h
  rfl
end
theorem runs_enc (i : Nat) (hi : i < 39) : (cellsM runsL)[i]? = some (.int .i64 (runNums[i]'(by simpa [runNums] using hi))) := by
  have e : cellsM runsL = runNums.map (Value.int .i64) := rfl
  rw [e, List.getElem?_map, List.getElem?_eq_getElem (by simpa [runNums] using hi)]; rfl
/-- What the ties of the two tables give. -/
theorem tabs2_of {W : World} {n1 n2 : String} (hn1 : Tryz.prog.globalNamed n1 = some 2) (hn2 : Tryz.prog.globalNamed n2 = some 1)
    {L : List (String × DataW Unit)} (h : laidMet Tryz.prog ((n1, Rows.laid_glyphcutter_set_areas) :: (n2, Rows.laid_glyphcutter_fold_runs) :: L) W) : (Areas W ∧ 2 < W.heap.size) ∧ Runs W ∧ 1 < W.heap.size := by
  obtain ⟨ps, ⟨g', t', cs, fuel, p, q, hg', ht', hvar, hd, ⟨g2, t2, cs2, fuel2, p2, q2, hg2, ht2, hvar2, hd2, _, _⟩, _⟩, _⟩ := h
  constructor
  · obtain rfl := Option.some.inj (hn1.symm.trans hg')
    have hty : (Tryz.prog.globals[2]?).map (·.type) = some 201 := by kernel_rfl
    obtain rfl := Option.some.inj (hty.symm.trans ht')
    obtain ⟨xs, m, _, hx, hl, hn, hel⟩ := DataW.trod_array Tryz.underlying201 hd
    rw [cellsAreas] at hl
    obtain ⟨l⟩ := cs
    match l, hl with
    | [c0, c1, c2, c3], _ =>
      match xs, hn with
      | [y0, y1], _ =>
        have h0 := hel 0 (by decide)
        have h1 := hel 1 (by decide)
        rw [cellsSpan] at h0 h1
        obtain ⟨a, b, e1, e2⟩ := span_cells h0
        obtain ⟨c, d, e3, e4⟩ := span_cells h1
        simp at e1 e3
        subst e2 e4
        simp [Rows.laid_glyphcutter_set_areas] at hx
        obtain ⟨⟨⟨rfl, rfl⟩, rfl, rfl⟩, _⟩ := hx
        obtain ⟨rfl, rfl⟩ := e1
        obtain ⟨rfl, rfl⟩ := e3
        have key := fun i => World.var?_cell hn1 hvar i
        refine ⟨⟨key 0, key 1, key 2, key 3⟩, ?_⟩
        have k0' : W.cell? ⟨2, 0, none⟩ = some (.int .i64 0) := key 0
        exact cell_in k0'
  · obtain rfl := Option.some.inj (hn2.symm.trans hg2)
    have hty : (Tryz.prog.globals[1]?).map (·.type) = some 148 := by kernel_rfl
    obtain rfl := Option.some.inj (hty.symm.trans ht2)
    obtain ⟨xs, m, _, hx, hl, hn, hel⟩ := DataW.trod_array Tryz.underlying148 hd2
    rw [laid_runs] at hx
    have hxs : xs.map (·.1) = runsL.map dataR := by
      have := congrArg Prod.fst hx
      injection this with this
      exact this.symm
    have key := fun i => World.var?_cell hn2 hvar2 i
    have hall : ∀ j, j < 39 → cs2[j]? = (cellsM runsL)[j]? := fun j hj => by
      have hi : j / 3 < 13 := by omega
      have h1 := hel (j / 3) hi
      rw [cellsRn, List.getElem?_eq_getElem (by omega)] at h1
      obtain ⟨u, e1, e2⟩ := run_cells h1
      have h2 : (xs.map (·.1))[j / 3]? = some (dataR u) := by rw [List.getElem?_map, List.getElem?_eq_getElem (by omega)]; exact congrArg some e2
      rw [hxs, List.getElem?_map, List.getElem?_eq_getElem (by exact hi)] at h2
      have h3 : runsL[j / 3]'(by exact hi) = u := dataR_inj (Option.some.inj h2)
      have h5 : runsL[j / 3]?.getD default = runsL[j / 3]'(by exact hi) := by rw [List.getElem?_eq_getElem (by exact hi)]; rfl
      rw [cellsM_get runsL j (by show j < 13 * 3; omega), h5]
      have h4 : (encM u)[j % 3]? = cs2[j]? := by
        rw [← e1, List.getElem?_take_of_lt (by omega), List.getElem?_drop, show j / 3 * 3 + j % 3 = j from by omega, Array.getElem?_toList]
      rw [← h4, ← h3]
    have hR : Runs W := fun i hi => by
      have := key i
      rw [hall i hi, runs_enc i hi] at this
      exact this
    exact ⟨hR, cell_in (hR 0 (by decide))⟩
/-- What the ties of all tables give. -/
theorem tabs7 {W : World} (h : laidMet Tryz.prog Rows.rxPlainRow.laid W) : (Areas W ∧ 2 < W.heap.size) ∧ Runs W ∧ 1 < W.heap.size :=
  tabs2_of (by kernel_rfl) (by kernel_rfl) h.tail.tail.tail
/-- A slice holds the bytes cs. -/
def U8s (n₀ : Nat) (W : World) (A : Option Addr) (cs : List Int) : Prop :=
  (∀ c ∈ cs, 0 ≤ c ∧ c ≤ 255) ∧ (cs ≠ [] → ∃ b off, A = some ⟨b, off, none⟩ ∧ b < n₀ ∧ ∀ j (h : j < cs.length), W.cell? ⟨b, off + j, none⟩ = some (.int .u8 cs[j]))
theorem U8s.below {n₀ : Nat} {V W : World} (h : Below n₀ V W) {A : Option Addr} {cs : List Int} (hs : U8s n₀ V A cs) : U8s n₀ W A cs :=
  ⟨hs.1, fun hl => by
    obtain ⟨b, off, e, hb, hc⟩ := hs.2 hl
    exact ⟨b, off, e, hb, fun j hj => (h.cell (p := ⟨b, off + j, none⟩) hb).trans (hc j hj)⟩⟩
theorem cellsU8 : Tryz.prog.cellsOf 5 = 1 := by kernel_rfl
section
variable {H : Type} {enc : TypeId × Value → H} {W : World} {base : Nat}

theorem open_u8 {v : Value} {d : DataW H} {p : List MemPlace} (hv : Value.okWide Tryz.prog W .any base 38 v) (h : DataW.Trod enc Tryz.prog W 0 (fun _ => true) true 38 v d p) :
    ∃ A cs ca, v = .slice A (List.length cs) ca ∧ U8s W.heap.size W A cs := by
  obtain ⟨a0, len, cap, rfl⟩ := okWide_slice Tryz.underlying38 hv
  obtain ⟨fuel, hf⟩ := h
  rcases open_ints Tryz.underlying38 Tryz.underlying5 cellsU8 hf with ⟨hcs, _⟩ | ⟨a, len', cap', zs, hcs, _, hl, hm, hz, _, hcell, hwz⟩
  · simp [Value.cells] at hcs
    obtain ⟨rfl, rfl, rfl⟩ := hcs
    exact ⟨none, [], 0, rfl, by simp, fun h => absurd rfl h⟩
  · simp [Value.cells] at hcs
    obtain ⟨rfl, rfl, rfl⟩ := hcs
    simp only [if_true] at hz
    have hlt : (zs.take len).length = len := by simp; omega
    refine ⟨some a, zs.take len, cap, by rw [hlt], fun c hc => ?_, fun hne => ?_⟩
    · have := hwz c (List.mem_of_mem_take hc)
      simp [Lit.wf, IntKind.min, IntKind.max, IntKind.bits, IntKind.signed] at this
      omega
    · have hpos : 0 < len := by
        rcases Nat.eq_zero_or_pos len with h0 | h0
        · subst h0; simp at hne
        · exact h0
      obtain ⟨b, off, spot⟩ := a
      have hspot : spot = none := by simpa [Addr.add] using World.cell?_spot (hcell 0 (by omega))
      subst hspot
      have hb : b < W.heap.size := cell_in (hcell 0 (by omega))
      refine ⟨b, off, rfl, hb, fun j hj => ?_⟩
      have := hcell j (by omega)
      rw [add_plain] at this
      rw [this, List.getElem_take]
      simp [List.getD, show j < zs.length by omega]

end
end Go.Proofs.YtahgljglleeloaaGreatDoor
