/- Arguments opened: slices of slices of ranges. -/
import Derived.Test.YtgaalkcociifmaaDoorSKit
import Derived.Test.YtgaalkcociifmaaDoorSRange
namespace Go.Proofs.YtgaalkcociifmaaDoor
open Go.ChangeShapes Go.WideShapes Go.ChangeAt Go.RowKit SeqM
set_option maxRecDepth 100000

theorem cellsRg : Tryd.prog.cellsOf 64 = 2 := by kernel_rfl
theorem cellsRgs : Tryd.prog.cellsOf 37 = 1 := by kernel_rfl
section
variable {H : Type} {enc : TypeId × Value → H} {W : World} {base : Nat}
theorem range_cells {base : Nat} {spare : Nat → Bool} {held : Bool} {fuel : Nat} {cs : List Value} {x : DataW H × List MemPlace} (h : DataW.trod enc Tryd.prog W base spare held fuel 64 cs = some x) :
    ∃ lo hi : Int, cs = [.int .u8 lo, .int .u8 hi] ∧ IsRg (lo, hi) := by
  obtain ⟨xs, n, _, hx, hl, hn, hf⟩ := DataW.trod_struct Tryd.underlying64 h
  rw [cellsRg] at hl
  match cs, hl with
  | [c0, c1], _ =>
    match xs, hn with
    | [y0, y1], _ =>
      have h0 : DataW.trod enc Tryd.prog W base spare held n 5 (([c0, c1].drop 0).take (Tryd.prog.cellsOf 5)) = some y0 := hf 0 _ rfl
      have h1 : DataW.trod enc Tryd.prog W base spare held n 5 (([c0, c1].drop 1).take (Tryd.prog.cellsOf 5)) = some y1 := hf 1 _ rfl
      rw [cellsU8] at h0 h1
      obtain ⟨a, ha, _, wa⟩ := DataW.trod_int Tryd.underlying5 h0
      obtain ⟨b, hb, _, wb⟩ := DataW.trod_int Tryd.underlying5 h1
      simp at ha hb
      subst ha hb
      simp [Lit.wf, IntKind.min, IntKind.max, IntKind.bits, IntKind.signed] at wa wb
      exact ⟨a, b, rfl, by unfold IsRg; simp only; omega⟩
theorem ranges_trod {spare : Nat → Bool} {held : Bool} {fuel : Nat} {cs : List Value} {x : DataW H × List MemPlace} (h : DataW.trod enc Tryd.prog W base spare held fuel 37 cs = some x) :
    ∃ A l ca, cs = [.slice A (List.length l) ca] ∧ Rgs W A l ∧ l.length ≤ 9223372036854775807 := by
  rcases Go.Deep.open_slice Tryd.underlying37 h with ⟨hcs, _⟩ | ⟨a, len, cap, m, n, D, Pl, rfl, _, hl, hm, hmm, hx, hi⟩
  · exact ⟨none, [], 0, hcs, ⟨fun s h => by simp at h, fun h => absurd rfl h⟩, by simp⟩
  · have hlm : len ≤ m := by rw [hmm]; split <;> omega
    have each : ∀ i, i < len → ∃ s : Rg, W.cell? (a.add (i * 2)) = some (.int .u8 s.1) ∧ W.cell? (a.add (i * 2 + 1)) = some (.int .u8 s.2) ∧ IsRg s := fun i hlt => by
      obtain ⟨cs', hc, ht⟩ := hi i (by omega)
      rw [cellsRg] at hc
      obtain ⟨lo, hi', rfl, hrg⟩ := range_cells ht
      obtain ⟨_, _, hat⟩ := World.cells?_some hc
      refine ⟨(lo, hi'), ?_, ?_, hrg⟩
      · have := hat 0 (by omega); rw [Go.Deep.add_add] at this; simpa using this
      · have := hat 1 (by omega); rw [Go.Deep.add_add] at this; simpa using this
    obtain ⟨l, hll, hat⟩ : ∃ l : List Rg, l.length = len ∧ ∀ i (h : i < l.length), W.cell? (a.add (i * 2)) = some (.int .u8 l[i].1) ∧ W.cell? (a.add (i * 2 + 1)) = some (.int .u8 l[i].2) ∧ IsRg l[i] := by
      refine ⟨(List.range len).attach.map (fun i => Classical.choose (each i.1 (List.mem_range.1 i.2))), by simp, fun i h => ?_⟩
      have hil : i < len := by simpa using h
      have := Classical.choose_spec (each i hil)
      simpa using this
    refine ⟨some a, l, cap, by rw [hll], ⟨fun s hs => ?_, fun hne => ?_⟩, by unfold maxLen at hm; omega⟩
    · obtain ⟨i, hi, rfl⟩ := List.mem_iff_getElem.1 hs; exact (hat i hi).2.2
    · have hpos : 0 < l.length := List.length_pos_iff.2 hne
      obtain ⟨b, off, spot⟩ := a
      have hspot : spot = none := by simpa [Addr.add] using World.cell?_spot (hat 0 hpos).1
      subst hspot
      have hb : b < W.heap.size := cell_in (hat 0 hpos).1
      refine ⟨b, off, rfl, hb, fun j hj => ?_⟩
      obtain ⟨h1, h2, _⟩ := hat j hj
      rw [add_plain] at h1 h2
      exact ⟨h1, h2⟩
/-- The rows, how many, and how long. -/
theorem open_ranges {v : Value} {d : DataW H} {p : List MemPlace} (hv : Value.okWide Tryd.prog W .any base 27 v) (h : DataW.Trod enc Tryd.prog W 0 (fun _ => true) true 27 v d p) :
    ∃ A rs ca, v = .slice A (List.length rs) ca ∧ Rws W A rs ∧ rs.length ≤ 9223372036854775807 ∧ ∀ r ∈ rs, r.length ≤ 9223372036854775807 := by
  obtain ⟨a0, len0, cap0, rfl⟩ := okWide_slice Tryd.underlying27 hv
  obtain ⟨fuel, hf⟩ := h
  rcases Go.Deep.open_slice Tryd.underlying27 hf with ⟨hcs, _⟩ | ⟨a, len, cap, m, n, D, Pl, hcs, _, hl, hm, hmm, hx, hi⟩
  · simp [Value.cells] at hcs
    obtain ⟨rfl, rfl, rfl⟩ := hcs
    exact ⟨none, [], 0, rfl, fun h => absurd rfl h, by simp, fun a h => by simp at h⟩
  · simp [Value.cells] at hcs
    obtain ⟨rfl, rfl, rfl⟩ := hcs
    have hlm : len0 ≤ m := by rw [hmm]; split <;> omega
    have each : ∀ i, i < len0 → ∃ l : List Rg, (∃ P c, W.cell? (a.add i) = some (.slice P l.length c) ∧ Rgs W P l) ∧ l.length ≤ 9223372036854775807 := fun i hlt => by
      obtain ⟨cs', hc, ht⟩ := hi i (by omega)
      rw [cellsRgs] at hc
      obtain ⟨P, l, c, rfl, h1, h2⟩ := ranges_trod ht
      obtain ⟨_, _, hat⟩ := World.cells?_some hc
      refine ⟨l, ⟨P, c, ?_, h1⟩, h2⟩
      have := hat 0 (by omega); rw [Go.Deep.add_add] at this; simpa using this
    obtain ⟨ls, hll, hat⟩ : ∃ ls : List (List Rg), ls.length = len0 ∧ ∀ i (h : i < ls.length), (∃ P c, W.cell? (a.add i) = some (.slice P ls[i].length c) ∧ Rgs W P ls[i]) ∧ ls[i].length ≤ 9223372036854775807 := by
      refine ⟨(List.range len0).attach.map (fun i => Classical.choose (each i.1 (List.mem_range.1 i.2))), by simp, fun i h => ?_⟩
      have hil : i < len0 := by simpa using h
      have := Classical.choose_spec (each i hil)
      simpa using this
    refine ⟨some a, ls, cap0, by rw [hll], fun hne => ?_, by unfold maxLen at hm; omega, fun l hl => ?_⟩
    · have hpos : 0 < ls.length := List.length_pos_iff.2 hne
      obtain ⟨P0, c0, hc0, _⟩ := (hat 0 hpos).1
      obtain ⟨b, off, spot⟩ := a
      have hspot : spot = none := by simpa [Addr.add] using World.cell?_spot hc0
      subst hspot
      have hb : b < W.heap.size := cell_in hc0
      refine ⟨b, off, rfl, hb, fun j hj => ?_⟩
      obtain ⟨P, c, h1, h2⟩ := (hat j hj).1
      rw [add_plain] at h1
      exact ⟨P, c, h1, h2⟩
    · obtain ⟨i, hi, rfl⟩ := List.mem_iff_getElem.1 hl; exact (hat i hi).2
end
end Go.Proofs.YtgaalkcociifmaaDoor
