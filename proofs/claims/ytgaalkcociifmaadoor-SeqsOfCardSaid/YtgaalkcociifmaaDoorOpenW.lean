/- Arguments opened: slices of spans, with what their ends are. -/
import Derived.Test.YtgaalkcociifmaaDoorOpen
import Derived.Test.YtgaalkcociifmaaDoorRefOps
namespace Go.Proofs.YtgaalkcociifmaaDoor
open Go.ChangeShapes Go.WideShapes Go.ChangeAt Go.RowKit SetM
set_option maxRecDepth 100000
section
variable {H : Type} {enc : TypeId × Value → H} {W : World} {base : Nat}
theorem span_wide {base : Nat} {spare : Nat → Bool} {held : Bool} {fuel : Nat} {lo hi : Int} {x : DataW H × List MemPlace} (h : DataW.trod enc Tryd.prog W base spare held fuel 43 [.int .i64 lo, .int .i64 hi] = some x) : -9223372036854775808 ≤ hi := by
  obtain ⟨xs, n, _, hx, hl, hn, hf⟩ := DataW.trod_struct Tryd.underlying43 h
  match xs, hn with
  | [y0, y1], _ =>
    have h1 : DataW.trod enc Tryd.prog W base spare held n 3 (([.int .i64 lo, .int .i64 hi] : List Value).drop 1 |>.take (Tryd.prog.cellsOf 3)) = some y1 := hf 1 _ rfl
    rw [cellsInt] at h1
    obtain ⟨b, hb, hb2, hw⟩ := DataW.trod_int Tryd.underlying3 h1
    simp at hb
    subst hb
    simp [Lit.wf, IntKind.min, IntKind.max, IntKind.bits, IntKind.signed] at hw
    omega
theorem open_spansW {v : Value} {d : DataW H} {p : List MemPlace} (hv : Value.okWide Tryd.prog W .any base 25 v) (h : DataW.Trod enc Tryd.prog W 0 (fun _ => true) true 25 v d p) :
    ∃ A l ca, v = .slice A (List.length l) ca ∧ Sl W A l ∧ (A = none → ca = 0) ∧ l.length ≤ 9223372036854775807 ∧ Wide l := by
  obtain ⟨a0, len, cap, rfl⟩ := okWide_slice Tryd.underlying25 hv
  obtain ⟨fuel, hf⟩ := h
  rcases Go.Deep.open_slice Tryd.underlying25 hf with ⟨hcs, _⟩ | ⟨a, len', cap', m, n, D, Pl, hcs, _, hl, hm, hmm, _, hi⟩
  · simp [Value.cells] at hcs
    obtain ⟨rfl, rfl, rfl⟩ := hcs
    exact ⟨none, [], 0, rfl, fun h => absurd rfl h, fun _ => rfl, by simp, fun s h => by simp at h⟩
  · simp [Value.cells] at hcs
    obtain ⟨rfl, rfl, rfl⟩ := hcs
    simp only [if_true] at hmm
    have each : ∀ i, i < len → ∃ s : Sp, W.cell? (a.add (i * 2)) = some (.int .i64 s.1) ∧ W.cell? (a.add (i * 2 + 1)) = some (.int .i64 s.2) ∧ -9223372036854775808 ≤ s.2 := fun i hlt => by
      obtain ⟨cs', hc, ht⟩ := hi i (by omega)
      rw [cellsSpan] at hc
      obtain ⟨lo, hi', rfl, _⟩ := span_cells ht
      obtain ⟨_, _, hat⟩ := World.cells?_some hc
      refine ⟨(lo, hi'), ?_, ?_, span_wide ht⟩
      · have := hat 0 (by omega); rw [Go.Deep.add_add] at this; simpa using this
      · have := hat 1 (by omega); rw [Go.Deep.add_add] at this; simpa using this
    obtain ⟨l, hll, hat⟩ : ∃ l : List Sp, l.length = len ∧ ∀ i (h : i < l.length), W.cell? (a.add (i * 2)) = some (.int .i64 l[i].1) ∧ W.cell? (a.add (i * 2 + 1)) = some (.int .i64 l[i].2) ∧ -9223372036854775808 ≤ l[i].2 := by
      refine ⟨(List.range len).attach.map (fun i => Classical.choose (each i.1 (List.mem_range.1 i.2))), by simp, fun i h => ?_⟩
      have hil : i < len := by simpa using h
      have := Classical.choose_spec (each i hil)
      simpa using this
    refine ⟨some a, l, cap, by rw [hll], fun hne => ?_, (fun h => by cases h), by unfold maxLen at hm; omega, fun s hs => by obtain ⟨i, hi, rfl⟩ := List.mem_iff_getElem.1 hs; exact (hat i hi).2.2⟩
    have hpos : 0 < l.length := List.length_pos_iff.2 hne
    obtain ⟨b, off, spot⟩ := a
    have hspot : spot = none := by simpa [Addr.add] using World.cell?_spot (hat 0 hpos).1
    subst hspot
    have hb : b < W.heap.size := cell_in (hat 0 hpos).1
    refine ⟨b, off, rfl, hb, fun j hj => ?_⟩
    obtain ⟨h1, h2, _⟩ := hat j hj
    rw [add_plain] at h1 h2
    exact ⟨h1, h2⟩
end
end Go.Proofs.YtgaalkcociifmaaDoor
