/- What the law's machines are made of, opened: arcs, small numbers. -/
import Derived.Test.YtioahgklplbinaaDoorGOpen
import Derived.Test.YtioahgklplbinaaDoorGMs
namespace Go.Proofs.YtioahgklplbinaaDoor
open Go.ChangeShapes Go.WideShapes Go.ChangeAt Go.RowKit SetM NfaM
set_option maxRecDepth 100000
theorem cellsI8 : Tryd.prog.cellsOf 53 = 1 := by kernel_rfl
theorem cellsU8 : Tryd.prog.cellsOf 5 = 1 := by kernel_rfl
theorem cellsU16s : Tryd.prog.cellsOf 38 = 1 := by kernel_rfl
theorem cellsBool : Tryd.prog.cellsOf 4 = 1 := by kernel_rfl
theorem cellsArc : Tryd.prog.cellsOf 55 = 4 := by kernel_rfl
section
variable {H : Type} {enc : TypeId × Value → H} {W : World} {base : Nat}
theorem i8s_trod {spare : Nat → Bool} {held : Bool} {fuel : Nat} {cs : List Value} {x : DataW H × List MemPlace} (h : DataW.trod enc Tryd.prog W base spare held fuel 23 cs = some x) :
    ∃ a : List Int, ∃ A ca, cs = [.slice A a.length ca] ∧ I8s W A a ∧ a.length ≤ 9223372036854775807 := by
  obtain ⟨A, l, ca, e, hr, h8⟩ := slice_of (s := 1) (E := fun vs (a : Int) => vs = [.int .i8 a] ∧ -128 ≤ a ∧ a ≤ 127) Tryd.underlying23 cellsI8 (by decide) (fun h => by
    obtain ⟨a, e1, e2, hw⟩ := DataW.trod_int Tryd.underlying53 h
    simp [Lit.wf, IntKind.min, IntKind.max, IntKind.bits, IntKind.signed] at hw
    exact ⟨a, e1, by omega, by omega⟩) h
  refine ⟨l, A, ca, e, ⟨fun c hc => ?_, fun k hk => ?_⟩, h8⟩
  · obtain ⟨i, hi, rfl⟩ := List.mem_iff_getElem.1 hc
    obtain ⟨_, _, _, _, _, _, _, _, q⟩ := hr i hi
    exact q
  · obtain ⟨b, off, vs, e1, hb, _, hc, rfl, _⟩ := hr k hk
    have := hc 0 (by simp)
    exact ⟨b, off, e1, hb, by simpa using this⟩
theorem u16s_trod {spare : Nat → Bool} {held : Bool} {fuel : Nat} {cs : List Value} {x : DataW H × List MemPlace} (h : DataW.trod enc Tryd.prog W base spare held fuel 38 cs = some x) :
    ∃ a : List Int, ∃ A ca, cs = [.slice A a.length ca] ∧ U16s W.heap.size W A a ∧ a.length ≤ 9223372036854775807 := by
  obtain ⟨A, l, ca, e, hr, h8⟩ := slice_of (s := 1) (E := fun vs (a : Int) => vs = [.int .u16 a] ∧ 0 ≤ a ∧ a ≤ 65535) Tryd.underlying38 cellsU16 (by decide) (fun h => by
    obtain ⟨a, e1, e2, hw⟩ := DataW.trod_int Tryd.underlying25 h
    simp [Lit.wf, IntKind.min, IntKind.max, IntKind.bits, IntKind.signed] at hw
    exact ⟨a, e1, by omega, by omega⟩) h
  refine ⟨l, A, ca, e, ⟨fun c hc => ?_, fun hne => ?_⟩, h8⟩
  · obtain ⟨i, hi, rfl⟩ := List.mem_iff_getElem.1 hc
    obtain ⟨_, _, _, _, _, _, _, _, q⟩ := hr i hi
    exact q
  · obtain ⟨b, off, vs, rfl, hb, _⟩ := hr 0 (List.length_pos_iff.2 hne)
    refine ⟨b, off, rfl, hb, fun j hj => ?_⟩
    obtain ⟨b', off', vs, e1, _, _, hc, rfl, _⟩ := hr j hj
    cases e1
    have := hc 0 (by simp)
    simpa using this
/-- What an arc's cells say. -/
def ArcC (W : World) (vs : List Value) (a : Int × Int × List Int × Bool) : Prop := ∃ sp sc, vs = [.int .u8 a.1, .int .u8 a.2.1, .slice sp a.2.2.1.length sc, .bool a.2.2.2] ∧ (0 ≤ a.1 ∧ a.1 ≤ 255) ∧ (0 ≤ a.2.1 ∧ a.2.1 ≤ 255) ∧ U16s W.heap.size W sp a.2.2.1 ∧ a.2.2.1.length ≤ 9223372036854775807
theorem arc_trod {spare : Nat → Bool} {held : Bool} {fuel : Nat} {cs : List Value} {x : DataW H × List MemPlace} (h : DataW.trod enc Tryd.prog W base spare held fuel 55 cs = some x) : ∃ e, ArcC W cs e := by
  obtain ⟨xs, n, _, hx, hl, hn, hf⟩ := DataW.trod_struct Tryd.underlying55 h
  rw [cellsArc] at hl
  match cs, hl with
  | [c0, c1, c2, c3], _ =>
    match xs, hn with
    | [y0, y1, y2, y3], _ =>
      have h0 : DataW.trod enc Tryd.prog W base spare held n 5 (([c0, c1, c2, c3].drop 0).take (Tryd.prog.cellsOf 5)) = some y0 := hf 0 _ rfl
      have h1 : DataW.trod enc Tryd.prog W base spare held n 5 (([c0, c1, c2, c3].drop 1).take (Tryd.prog.cellsOf 5)) = some y1 := hf 1 _ rfl
      have h2 : DataW.trod enc Tryd.prog W base spare held n 38 (([c0, c1, c2, c3].drop 2).take (Tryd.prog.cellsOf 38)) = some y2 := hf 2 _ rfl
      have h3 : DataW.trod enc Tryd.prog W base spare held n 4 (([c0, c1, c2, c3].drop 3).take (Tryd.prog.cellsOf 4)) = some y3 := hf 3 _ rfl
      rw [cellsU8] at h0 h1
      rw [cellsU16s] at h2
      rw [cellsBool] at h3
      obtain ⟨a, ha, _, wa⟩ := DataW.trod_int Tryd.underlying5 h0
      obtain ⟨b, hb, _, wb⟩ := DataW.trod_int Tryd.underlying5 h1
      obtain ⟨l, A, ca, hc, k2, k3⟩ := u16s_trod h2
      obtain ⟨q, hq, _⟩ := DataW.trod_bool Tryd.underlying4 h3
      simp [Lit.wf, IntKind.min, IntKind.max, IntKind.bits, IntKind.signed] at wa wb
      simp at ha hb hc hq
      subst ha hb hc hq
      exact ⟨(a, b, l, q), A, ca, rfl, ⟨wa.1, wa.2⟩, ⟨wb.1, wb.2⟩, k2, k3⟩
theorem open_i8s {v : Value} {d : DataW H} {p : List MemPlace} (hv : Value.okWide Tryd.prog W .any base 23 v) (h : DataW.Trod enc Tryd.prog W 0 (fun _ => true) true 23 v d p) :
    ∃ A n ca l, v = .slice A n ca ∧ n = List.length l ∧ I8s W A l := by
  obtain ⟨a0, len, cap, rfl⟩ := okWide_slice Tryd.underlying23 hv
  obtain ⟨fuel, hf⟩ := h
  obtain ⟨l, A, ca, e, hr, h8⟩ := i8s_trod hf
  simp [Value.cells] at e
  obtain ⟨rfl, rfl, rfl⟩ := e
  exact ⟨_, _, _, l, rfl, rfl, hr⟩
theorem open_u16s {v : Value} {d : DataW H} {p : List MemPlace} (hv : Value.okWide Tryd.prog W .any base 38 v) (h : DataW.Trod enc Tryd.prog W 0 (fun _ => true) true 38 v d p) :
    ∃ A n ca l, v = .slice A n ca ∧ n = List.length l ∧ n ≤ 9223372036854775807 ∧ U16s W.heap.size W A l := by
  obtain ⟨a0, len, cap, rfl⟩ := okWide_slice Tryd.underlying38 hv
  obtain ⟨fuel, hf⟩ := h
  obtain ⟨l, A, ca, e, hr, h8⟩ := u16s_trod hf
  simp [Value.cells] at e
  obtain ⟨rfl, rfl, rfl⟩ := e
  exact ⟨_, _, _, l, rfl, rfl, h8, hr⟩
theorem open_intsn {v : Value} {d : DataW H} {p : List MemPlace} (hv : Value.okWide Tryd.prog W .any base 24 v) (h : DataW.Trod enc Tryd.prog W 0 (fun _ => true) true 24 v d p) :
    ∃ A n ca l, v = .slice A n ca ∧ n = List.length l ∧ n ≤ 9223372036854775807 ∧ InR W A l ∧ (A = none → ca = 0) := by
  obtain ⟨A, n, ca, l, rfl, h1, h2, h3⟩ := open_ints hv h
  refine ⟨A, n, ca, l, rfl, h1, h2, h3, fun e => ?_⟩
  subst e
  obtain ⟨fuel, hf⟩ := h
  rcases Go.Deep.open_slice Tryd.underlying24 hf with ⟨hcs, _⟩ | ⟨a, len, cap, m, k, D, Pl, hcs, _⟩
  · simp [Value.cells] at hcs
    exact hcs.2
  · simp [Value.cells] at hcs
theorem open_arcs {v : Value} {d : DataW H} {p : List MemPlace} (hv : Value.okWide Tryd.prog W .any base 22 v) (h : DataW.Trod enc Tryd.prog W 0 (fun _ => true) true 22 v d p) :
    ∃ A n ca l, v = .slice A n ca ∧ n = List.length l ∧ AsR W A l := by
  obtain ⟨a0, len, cap, rfl⟩ := okWide_slice Tryd.underlying22 hv
  obtain ⟨fuel, hf⟩ := h
  obtain ⟨A, l, ca, e, hr, h8⟩ := slice_of (s := 4) (E := ArcC W) Tryd.underlying22 cellsArc (by decide) arc_trod hf
  simp [Value.cells] at e
  obtain ⟨rfl, rfl, rfl⟩ := e
  refine ⟨_, _, _, l, rfl, rfl, fun j hj => ?_⟩
  obtain ⟨b, off, vs, e1, hb, _, hc, sp, sc, rfl, h2, h3, h4, h5⟩ := hr j hj
  have q0 := hc 0 (by simp)
  have q1 := hc 1 (by simp)
  have q2 := hc 2 (by simp)
  have q3 := hc 3 (by simp)
  exact ⟨b, off, sp, sc, e1, hb, q0, q1, q2, q3, h2, h3, h4, h5⟩
end
end Go.Proofs.YtioahgklplbinaaDoor
