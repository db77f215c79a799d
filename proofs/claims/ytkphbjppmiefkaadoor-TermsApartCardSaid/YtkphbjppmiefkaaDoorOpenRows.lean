/- Arguments opened: slices of slices of spans, with what their ends and their lengths are. -/
import Derived.Test.YtkphbjppmiefkaaDoorKit
import Derived.SizedLaws
namespace Go.Proofs.YtkphbjppmiefkaaDoor
open Go.ChangeShapes Go.WideShapes Go.ChangeAt Go.RowKit SetM
set_option maxRecDepth 100000

theorem cellsRow : Tryd.prog.cellsOf 28 = 1 := by kernel_rfl
theorem bytesSp : Tryd.prog.bytesOf 42 = 16 := by kernel_rfl
section
variable {H : Type} {enc : TypeId × Value → H} {W : World} {base : Nat}
theorem span_low {base : Nat} {spare : Nat → Bool} {held : Bool} {fuel : Nat} {lo hi : Int} {x : DataW H × List MemPlace} (h : DataW.trod enc Tryd.prog W base spare held fuel 42 [.int .i64 lo, .int .i64 hi] = some x) : -9223372036854775808 ≤ hi := by
  obtain ⟨xs, n, _, hx, hl, hn, hf⟩ := DataW.trod_struct Tryd.underlying42 h
  match xs, hn with
  | [y0, y1], _ =>
    have h1 : DataW.trod enc Tryd.prog W base spare held n 3 (([.int .i64 lo, .int .i64 hi] : List Value).drop 1 |>.take (Tryd.prog.cellsOf 3)) = some y1 := hf 1 _ rfl
    rw [cellsInt] at h1
    obtain ⟨b, hb, hb2, hw⟩ := DataW.trod_int Tryd.underlying3 h1
    simp at hb
    subst hb
    simp [Lit.wf, IntKind.min, IntKind.max, IntKind.bits, IntKind.signed] at hw
    omega
/-- How long a slice is, off its datum. -/
def LenOf (d : DataW H) (n : Nat) : Prop := n = 0 ∨ ∃ elems spare, d = .slice elems spare ∧ elems.length = n
/-- A slice of spans, off its reading at whatever depth. -/
theorem spans_trod {spare : Nat → Bool} {held : Bool} {fuel : Nat} {cs : List Value} {x : DataW H × List MemPlace} (h : DataW.trod enc Tryd.prog W base spare held fuel 28 cs = some x) :
    ∃ A l ca, cs = [.slice A (List.length l) ca] ∧ Spans W.heap.size W A l ∧ (A = none → ca = 0) ∧ (∀ s ∈ l, -9223372036854775808 ≤ s.2) ∧ LenOf x.1 l.length := by
  rcases Go.Deep.open_slice Tryd.underlying28 h with ⟨hcs, _⟩ | ⟨a, len, cap, m, n, D, Pl, rfl, _, hl, hm, hmm, hx, hi⟩
  · exact ⟨none, [], 0, hcs, fun h => absurd rfl h, fun _ => rfl, fun s h => by simp at h, .inl rfl⟩
  · have hlm : len ≤ m := by rw [hmm]; split <;> omega
    have each : ∀ i, i < len → ∃ s : Sp, W.cell? (a.add (i * 2)) = some (.int .i64 s.1) ∧ W.cell? (a.add (i * 2 + 1)) = some (.int .i64 s.2) ∧ -9223372036854775808 ≤ s.2 := fun i hlt => by
      obtain ⟨cs', hc, ht⟩ := hi i (by omega)
      rw [cellsSpan] at hc
      obtain ⟨lo, hi', rfl, _⟩ := span_cells ht
      obtain ⟨_, _, hat⟩ := World.cells?_some hc
      refine ⟨(lo, hi'), ?_, ?_, span_low ht⟩
      · have := hat 0 (by omega); rw [Go.Deep.add_add] at this; simpa using this
      · have := hat 1 (by omega); rw [Go.Deep.add_add] at this; simpa using this
    obtain ⟨l, hll, hat⟩ : ∃ l : List Sp, l.length = len ∧ ∀ i (h : i < l.length), W.cell? (a.add (i * 2)) = some (.int .i64 l[i].1) ∧ W.cell? (a.add (i * 2 + 1)) = some (.int .i64 l[i].2) ∧ -9223372036854775808 ≤ l[i].2 := by
      refine ⟨(List.range len).attach.map (fun i => Classical.choose (each i.1 (List.mem_range.1 i.2))), by simp, fun i h => ?_⟩
      have hil : i < len := by simpa using h
      have := Classical.choose_spec (each i hil)
      simpa using this
    refine ⟨some a, l, cap, by rw [hll], fun hne => ?_, (fun h => by cases h), fun s hs => ?_, .inr ⟨_, _, congrArg Prod.fst hx, by simp [hll]⟩⟩
    · have hpos : 0 < l.length := List.length_pos_iff.2 hne
      obtain ⟨b, off, spot⟩ := a
      have hspot : spot = none := by simpa [Addr.add] using World.cell?_spot (hat 0 hpos).1
      subst hspot
      have hb : b < W.heap.size := cell_in (hat 0 hpos).1
      refine ⟨b, off, rfl, hb, fun j hj => ?_⟩
      obtain ⟨h1, h2, _⟩ := hat j hj
      rw [add_plain] at h1 h2
      exact ⟨h1, h2⟩
    · obtain ⟨i, hi, rfl⟩ := List.mem_iff_getElem.1 hs; exact (hat i hi).2.2
/-- What a slice of slices of spans holds, in its memory and in its datum. -/
structure Opened (W : World) (d : DataW H) (A : Option Addr) (ls : List (List Sp)) : Prop where
  rows : ls ≠ [] → ∃ b off, A = some ⟨b, off, none⟩ ∧ b < W.heap.size ∧ ∀ j (h : j < ls.length), ∃ P c, W.cell? ⟨b, off + j, none⟩ = some (.slice P ls[j].length c) ∧ Spans W.heap.size W P ls[j] ∧ (P = none → c = 0)
  low : ∀ a ∈ ls, ∀ s ∈ a, -9223372036854775808 ≤ s.2
  lens : ls = [] ∨ ∃ elems spare, d = .slice elems spare ∧ ∀ j (h : j < ls.length), ∃ e, elems[j]? = some e ∧ LenOf e ls[j].length
theorem open_rows {v : Value} {d : DataW H} {p : List MemPlace} (hv : Value.okWide Tryd.prog W .any base 24 v) (h : DataW.Trod enc Tryd.prog W 0 (fun _ => true) true 24 v d p) :
    ∃ A ls ca, v = .slice A (List.length ls) ca ∧ Opened W d A ls := by
  obtain ⟨a0, len0, cap0, rfl⟩ := okWide_slice Tryd.underlying24 hv
  obtain ⟨fuel, hf⟩ := h
  rcases Go.Deep.open_slice Tryd.underlying24 hf with ⟨hcs, _⟩ | ⟨a, len, cap, m, n, D, Pl, hcs, _, hl, hm, hmm, hx, hi⟩
  · simp [Value.cells] at hcs
    obtain ⟨rfl, rfl, rfl⟩ := hcs
    exact ⟨none, [], 0, rfl, ⟨fun h => absurd rfl h, fun a h => by simp at h, .inl rfl⟩⟩
  · simp [Value.cells] at hcs
    obtain ⟨rfl, rfl, rfl⟩ := hcs
    have hlm : len0 ≤ m := by rw [hmm]; split <;> omega
    have each : ∀ i, i < len0 → ∃ l : List Sp, (∃ P c, W.cell? (a.add i) = some (.slice P l.length c) ∧ Spans W.heap.size W P l ∧ (P = none → c = 0)) ∧ (∀ s ∈ l, -9223372036854775808 ≤ s.2) ∧ LenOf (D i) l.length := fun i hlt => by
      obtain ⟨cs', hc, ht⟩ := hi i (by omega)
      rw [cellsRow] at hc
      obtain ⟨P, l, c, rfl, h1, h2, h3, h4⟩ := spans_trod ht
      obtain ⟨_, _, hat⟩ := World.cells?_some hc
      refine ⟨l, ⟨P, c, ?_, h1, h2⟩, h3, h4⟩
      have := hat 0 (by omega); rw [Go.Deep.add_add] at this; simpa using this
    obtain ⟨ls, hll, hat⟩ : ∃ ls : List (List Sp), ls.length = len0 ∧ ∀ i (h : i < ls.length), (∃ P c, W.cell? (a.add i) = some (.slice P ls[i].length c) ∧ Spans W.heap.size W P ls[i] ∧ (P = none → c = 0)) ∧ (∀ s ∈ ls[i], -9223372036854775808 ≤ s.2) ∧ LenOf (D i) ls[i].length := by
      refine ⟨(List.range len0).attach.map (fun i => Classical.choose (each i.1 (List.mem_range.1 i.2))), by simp, fun i h => ?_⟩
      have hil : i < len0 := by simpa using h
      have := Classical.choose_spec (each i hil)
      simpa using this
    refine ⟨some a, ls, cap0, by rw [hll], ⟨fun hne => ?_, fun l hl => ?_, .inr ⟨_, _, (Prod.mk.inj hx).1, fun j hj => ⟨D j, by rw [List.getElem?_map, List.getElem?_range (by omega)]; rfl, (hat j hj).2.2⟩⟩⟩⟩
    · have hpos : 0 < ls.length := List.length_pos_iff.2 hne
      obtain ⟨P0, c0, hc0, _⟩ := (hat 0 hpos).1
      obtain ⟨b, off, spot⟩ := a
      have hspot : spot = none := by simpa [Addr.add] using World.cell?_spot hc0
      subst hspot
      have hb : b < W.heap.size := cell_in hc0
      refine ⟨b, off, rfl, hb, fun j hj => ?_⟩
      obtain ⟨P, c, h1, h2⟩ := (hat j hj).1
      rw [add_plain] at h1
      exact ⟨P, c, h1, h2⟩
    · obtain ⟨i, hi, rfl⟩ := List.mem_iff_getElem.1 hl; exact (hat i hi).2.1
theorem weights_all {P : Program} {e : TypeId} : ∀ {ds : List (DataW H)} {j : Nat} {d : DataW H}, ds[j]? = some d → ∀ n ∈ d.weights P e, n ∈ DataW.weightsAll P e ds
  | [], j, d, hd, n, hn => by simp at hd
  | d0 :: r, 0, d, hd, n, hn => by
    simp only [List.getElem?_cons_zero, Option.some.injEq] at hd
    subst hd
    simp only [DataW.weightsAll, List.mem_append]
    exact .inl hn
  | d0 :: r, j + 1, d, hd, n, hn => by
    simp only [List.getElem?_cons_succ] at hd
    simp only [DataW.weightsAll, List.mem_append]
    exact .inr (weights_all hd n hn)
/-- Each row of such an argument is bounded by its weight. -/
theorem rows_reach {ts : List TypeId} {ds : List (DataW H)} (hsz : (DataW.weightsEach Tryd.prog ts ds).all (· ≤ reachBytes) = true) {j : Nat} {A : Option Addr} {ls : List (List Sp)} {d : DataW H} (ht : ts[j]? = some 24) (hd : ds[j]? = some d)
    (h : Opened W d A ls) : ∀ a ∈ ls, a.length ≤ 140737488351232 := by
  intro a ha
  rcases h.lens with h0 | ⟨elems, spare, rfl, hel⟩
  · rw [h0] at ha; simp at ha
  · obtain ⟨i, hi, rfl⟩ := List.mem_iff_getElem.1 ha
    obtain ⟨e, he, hle⟩ := hel i hi
    rcases hle with h0 | ⟨el, sp, rfl, hlen⟩
    · omega
    · have hm : (el.length + sp.length) * Tryd.prog.bytesOf 42 ∈ DataW.weights Tryd.prog 28 (DataW.slice el sp) := by simp [DataW.weights, Tryd.underlying28]
      have hm2 : (el.length + sp.length) * Tryd.prog.bytesOf 42 ∈ DataW.weights Tryd.prog 24 (DataW.slice elems spare) := by
        simp only [DataW.weights, Tryd.underlying24, List.mem_cons, List.mem_append]
        exact .inr (.inl (weights_all he _ hm))
      have := List.all_eq_true.1 hsz _ (DataW.weights_mem_each ht hd _ hm2)
      rw [bytesSp] at this
      have e : reachBytes = 140737488351232 := rfl
      rw [e] at this
      have := of_decide_eq_true this
      omega
end
end Go.Proofs.YtkphbjppmiefkaaDoor
