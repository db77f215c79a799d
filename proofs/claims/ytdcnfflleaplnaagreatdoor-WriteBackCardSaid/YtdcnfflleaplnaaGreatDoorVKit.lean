/- From a walk to a given row of chapter 7: what the ties of the tables give; a world in which they lie; bytes that came in. -/
import Derived.Test.YtdcnfflleaplnaaGreatDoorKIT
import Derived.Test.YtdcnfflleaplnaaGreatDoorVSH
import Derived.Test.YtdcnfflleaplnaaGreatDoorRO
import Derived.Stop.LaidErr
namespace Go.Proofs.YtdcnfflleaplnaaGreatDoor
open Go.ChangeShapes Go.WideShapes Go.ChangeAt Go.RowKit SetM
set_option maxRecDepth 100000
/-- A world for the witness: all tables hold what their initialisers lay. -/
noncomputable def laidWorld8 (os : Os) : World :=
  let w0 := World.holding Tryz.prog os ⟨#[], #[], []⟩
  let h := w0.heap
  let h := h.modify 2 fun
      | .cells _ t frozen => .cells #[.int .u8 0, .int .u8 1, .int .u8 28, .int .u8 2, .int .u8 29, .int .u8 14, .int .u8 24, .int .u8 3, .int .u8 30, .int .u8 22, .int .u8 20, .int .u8 15, .int .u8 25, .int .u8 17, .int .u8 4, .int .u8 8, .int .u8 31, .int .u8 27, .int .u8 13, .int .u8 23, .int .u8 21, .int .u8 19, .int .u8 16, .int .u8 7, .int .u8 26, .int .u8 12, .int .u8 18, .int .u8 6, .int .u8 11, .int .u8 5, .int .u8 10, .int .u8 9] t frozen
      | o => o
  let h := h.modify 3 fun
      | .cells _ t frozen => .cells #[.int .u8 0, .int .u8 1, .int .u8 56, .int .u8 2, .int .u8 57, .int .u8 49, .int .u8 28, .int .u8 3, .int .u8 61, .int .u8 58, .int .u8 42, .int .u8 50, .int .u8 38, .int .u8 29, .int .u8 17, .int .u8 4, .int .u8 62, .int .u8 47, .int .u8 59, .int .u8 36, .int .u8 45, .int .u8 43, .int .u8 51, .int .u8 22, .int .u8 53, .int .u8 39, .int .u8 33, .int .u8 30, .int .u8 24, .int .u8 18, .int .u8 12, .int .u8 5, .int .u8 63, .int .u8 55, .int .u8 48, .int .u8 27, .int .u8 60, .int .u8 41, .int .u8 37, .int .u8 16, .int .u8 46, .int .u8 35, .int .u8 44, .int .u8 21, .int .u8 52, .int .u8 32, .int .u8 23, .int .u8 11, .int .u8 54, .int .u8 26, .int .u8 40, .int .u8 15, .int .u8 34, .int .u8 20, .int .u8 31, .int .u8 10, .int .u8 25, .int .u8 14, .int .u8 19, .int .u8 9, .int .u8 13, .int .u8 8, .int .u8 7, .int .u8 6] t frozen
      | o => o
  let h := h.modify 0 fun
      | .cells _ t frozen => .cells #[.int .u64 1, .int .u64 10, .int .u64 100, .int .u64 1000, .int .u64 10000, .int .u64 100000, .int .u64 1000000, .int .u64 10000000, .int .u64 100000000, .int .u64 1000000000, .int .u64 10000000000, .int .u64 100000000000, .int .u64 1000000000000, .int .u64 10000000000000, .int .u64 100000000000000, .int .u64 1000000000000000, .int .u64 10000000000000000, .int .u64 100000000000000000, .int .u64 1000000000000000000, .int .u64 10000000000000000000] t frozen
      | o => o
  let h := h.modify 1 fun
      | .cells _ t frozen => .cells #[.int .i64 0, .int .i64 55295, .int .i64 57344, .int .i64 1114111] t frozen
      | o => o
  { w0 with heap := h }
theorem cellsU8 : Tryz.prog.cellsOf 5 = 1 := by kernel_rfl
/-- What the tie of the table of bits gives. -/
theorem tz_of {W : World} {n2 : String} (hn2 : Tryz.prog.globalNamed n2 = some 3) {L : List (String × DataW Unit)} (h : laidMet Tryz.prog ((n2, Rows.laid_math_bits_deBruijn64tab) :: L) W) : Tz W := by
  obtain ⟨ps, ⟨g', t', cs, fuel, p, q, hg', ht', hvar, hd, _⟩, _⟩ := h
  obtain rfl := Option.some.inj (hn2.symm.trans hg')
  have hty : (Tryz.prog.globals[3]?).map (·.type) = some 166 := by kernel_rfl
  obtain rfl := Option.some.inj (hty.symm.trans ht')
  obtain ⟨xs, m, _, hx, hl, hn, hel⟩ := DataW.trod_array Tryz.underlying166 hd
  have h1 := hel 15 (by decide)
  rw [cellsU8, List.getElem?_eq_getElem (by omega)] at h1
  obtain ⟨a, e1, e2, _⟩ := DataW.trod_int Tryz.underlying5 h1
  have hxs : (xs.map (·.1))[15]? = some (.lit (.int .u8 4)) := by
    have := congrArg Prod.fst hx
    injection this with this
    rw [← this]; rfl
  rw [List.getElem?_map, List.getElem?_eq_getElem (by omega)] at hxs
  have h3 := Option.some.inj hxs
  rw [e2] at h3
  injection h3 with h3
  injection h3 with _ h3
  subst h3
  have key := World.var?_cell hn2 hvar 15
  have h4 : cs[15]? = some (.int .u8 4) := by
    have h5 : (((cs.toList.drop (15 * 1)).take 1))[0]? = some (.int .u8 4) := by rw [e1]; rfl
    rw [List.getElem?_take_of_lt (by decide), List.getElem?_drop] at h5
    simpa using h5
  exact key.trans h4
/-- What the ties of all tables give. -/
theorem tabs8 {W : World} (h : laidMet Tryz.prog Rows.writeWritesRow.laid W) : Tb W :=
  have ha := areas_of (by kernel_rfl) h.tail.tail.tail
  ⟨⟨ha.1, ha.2⟩, tz_of (by kernel_rfl) h.tail⟩
section
variable {H : Type} {enc : TypeId × Value → H} {W : World} {base : Nat}

theorem open_u8 {v : Value} {d : DataW H} {p : List MemPlace} (hv : Value.okWide Tryz.prog W .any base 22 v) (h : DataW.Trod enc Tryz.prog W 0 (fun _ => true) true 22 v d p) :
    ∃ A cs ca, v = .slice A (List.length cs) ca ∧ U8s W.heap.size W A cs := by
  obtain ⟨a0, len, cap, rfl⟩ := okWide_slice Tryz.underlying22 hv
  obtain ⟨fuel, hf⟩ := h
  rcases open_ints Tryz.underlying22 Tryz.underlying5 cellsU8 hf with ⟨hcs, _⟩ | ⟨a, len', cap', zs, hcs, _, hl, hm, hz, _, hcell, hwz⟩
  · simp [Value.cells] at hcs
    obtain ⟨rfl, rfl, rfl⟩ := hcs
    exact ⟨none, [], 0, rfl, by simp, fun h => absurd rfl h⟩
  · simp [Value.cells] at hcs
    obtain ⟨rfl, rfl, rfl⟩ := hcs
    simp only [if_true] at hz
    have hlt : (zs.take len).length = len := by simp; omega
    refine ⟨some a, zs.take len, cap, by rw [hlt], fun c hc => ?_, fun hne => ?_⟩
    · have := hwz c (List.mem_of_mem_take hc)
      simp [Lit.wf, IntKind.min, IntKind.max, IntKind.bits, IntKind.signed] at this
      omega
    · have hpos : 0 < len := by
        rcases Nat.eq_zero_or_pos len with h0 | h0
        · subst h0; simp at hne
        · exact h0
      obtain ⟨b, off, spot⟩ := a
      have hspot : spot = none := by simpa [Addr.add] using World.cell?_spot (hcell 0 (by omega))
      subst hspot
      have hb : b < W.heap.size := cell_in (hcell 0 (by omega))
      refine ⟨b, off, rfl, hb, fun j hj => ?_⟩
      have := hcell j (by omega)
      rw [add_plain] at this
      rw [this, List.getElem_take]
      simp [List.getD, show j < zs.length by omega]

theorem span_wide {base : Nat} {spare : Nat → Bool} {held : Bool} {fuel : Nat} {lo hi : Int} {x : DataW H × List MemPlace} (h : DataW.trod enc Tryz.prog W base spare held fuel 73 [.int .i64 lo, .int .i64 hi] = some x) : -9223372036854775808 ≤ hi := by
  obtain ⟨xs, n, _, hx, hl, hn, hf⟩ := DataW.trod_struct Tryz.underlying73 h
  match xs, hn with
  | [y0, y1], _ =>
    have h1 : DataW.trod enc Tryz.prog W base spare held n 3 (([.int .i64 lo, .int .i64 hi] : List Value).drop 1 |>.take (Tryz.prog.cellsOf 3)) = some y1 := hf 1 _ rfl
    rw [cellsInt] at h1
    obtain ⟨b, hb, hb2, hw⟩ := DataW.trod_int Tryz.underlying3 h1
    simp at hb
    subst hb
    simp [Lit.wf, IntKind.min, IntKind.max, IntKind.bits, IntKind.signed] at hw
    omega
theorem open_spansW {v : Value} {d : DataW H} {p : List MemPlace} (hv : Value.okWide Tryz.prog W .any base 23 v) (h : DataW.Trod enc Tryz.prog W 0 (fun _ => true) true 23 v d p) :
    ∃ A l ca, v = .slice A (List.length l) ca ∧ Sl W A l ∧ (A = none → ca = 0) ∧ l.length ≤ 9223372036854775807 ∧ Wide l := by
  obtain ⟨a0, len, cap, rfl⟩ := okWide_slice Tryz.underlying23 hv
  obtain ⟨fuel, hf⟩ := h
  rcases Go.Deep.open_slice Tryz.underlying23 hf with ⟨hcs, _⟩ | ⟨a, len', cap', m, n, D, Pl, hcs, _, hl, hm, hmm, _, hi⟩
  · simp [Value.cells] at hcs
    obtain ⟨rfl, rfl, rfl⟩ := hcs
    exact ⟨none, [], 0, rfl, fun h => absurd rfl h, fun _ => rfl, by simp, fun s h => by simp at h⟩
  · simp [Value.cells] at hcs
    obtain ⟨rfl, rfl, rfl⟩ := hcs
    simp only [if_true] at hmm
    have each : ∀ i, i < len → ∃ s : Sp, W.cell? (a.add (i * 2)) = some (.int .i64 s.1) ∧ W.cell? (a.add (i * 2 + 1)) = some (.int .i64 s.2) ∧ -9223372036854775808 ≤ s.2 := fun i hlt => by
      obtain ⟨cs', hc, ht⟩ := hi i (by omega)
      rw [cellsSpan] at hc
      obtain ⟨lo, hi', rfl, _⟩ := span_cells ht
      obtain ⟨_, _, hat⟩ := World.cells?_some hc
      refine ⟨(lo, hi'), ?_, ?_, span_wide ht⟩
      · have := hat 0 (by omega); rw [Go.Deep.add_add] at this; simpa using this
      · have := hat 1 (by omega); rw [Go.Deep.add_add] at this; simpa using this
    obtain ⟨l, hll, hat⟩ : ∃ l : List Sp, l.length = len ∧ ∀ i (h : i < l.length), W.cell? (a.add (i * 2)) = some (.int .i64 l[i].1) ∧ W.cell? (a.add (i * 2 + 1)) = some (.int .i64 l[i].2) ∧ -9223372036854775808 ≤ l[i].2 := by
      refine ⟨(List.range len).attach.map (fun i => Classical.choose (each i.1 (List.mem_range.1 i.2))), by simp, fun i h => ?_⟩
      have hil : i < len := by simpa using h
      have := Classical.choose_spec (each i hil)
      simpa using this
    refine ⟨some a, l, cap, by rw [hll], fun hne => ?_, (fun h => by cases h), by unfold maxLen at hm; omega, fun s hs => by obtain ⟨i, hi, rfl⟩ := List.mem_iff_getElem.1 hs; exact (hat i hi).2.2⟩
    have hpos : 0 < l.length := List.length_pos_iff.2 hne
    obtain ⟨b, off, spot⟩ := a
    have hspot : spot = none := by simpa [Addr.add] using World.cell?_spot (hat 0 hpos).1
    subst hspot
    have hb : b < W.heap.size := cell_in (hat 0 hpos).1
    refine ⟨b, off, rfl, hb, fun j hj => ?_⟩
    obtain ⟨h1, h2, _⟩ := hat j hj
    rw [add_plain] at h1 h2
    exact ⟨h1, h2⟩
end
end Go.Proofs.YtdcnfflleaplnaaGreatDoor
