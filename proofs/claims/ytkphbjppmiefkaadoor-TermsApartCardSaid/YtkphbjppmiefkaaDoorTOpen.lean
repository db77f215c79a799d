/- Arguments opened: rows of rows of uint16. -/
import Derived.Test.YtkphbjppmiefkaaDoorOpen
import Derived.Test.YtkphbjppmiefkaaDoorOpenRows
import Derived.Test.YtkphbjppmiefkaaDoorTKL
import Derived.Deep.Slices
namespace Go.Proofs.YtkphbjppmiefkaaDoor
open Go.ChangeShapes Go.WideShapes Go.ChangeAt Go.RowKit SetM TermsM
set_option maxRecDepth 100000
section
variable {H : Type} {enc : TypeId × Value → H} {W : World} {base : Nat}
/-- A slice whose cells read, element by element, by E. -/
def RowOf {α : Type} (W : World) (s : Nat) (E : List Value → α → Prop) (A : Option Addr) (l : List α) : Prop :=
  ∀ j (h : j < l.length), ∃ b off vs, A = some ⟨b, off, none⟩ ∧ b < W.heap.size ∧ vs.length = s ∧ (∀ k (hk : k < vs.length), W.cell? ⟨b, off + j * s + k, none⟩ = some vs[k]) ∧ E vs l[j]
/-- A slice opened, by what is read of an element. -/
theorem slice_of {α : Type} {t e : TypeId} {s : Nat} {E : List Value → α → Prop} (ht : Tryd.prog.underlying t = some (.slice e)) (hs : Tryd.prog.cellsOf e = s) (h0 : 0 < s) {spare : Nat → Bool} {held : Bool}
    (hE : ∀ {fuel : Nat} {cs : List Value} {x : DataW H × List MemPlace}, DataW.trod enc Tryd.prog W base spare held fuel e cs = some x → ∃ a, E cs a) {fuel : Nat} {cs : List Value} {x : DataW H × List MemPlace} (h : DataW.trod enc Tryd.prog W base spare held fuel t cs = some x) :
    ∃ A l ca, cs = [.slice A (List.length l) ca] ∧ RowOf W s E A l ∧ l.length ≤ 9223372036854775807 := by
  rcases Go.Deep.open_slice ht h with ⟨hcs, _⟩ | ⟨a, len, cap, m, n, D, Pl, rfl, _, hl, hm, hmm, hx, hi⟩
  · exact ⟨none, [], 0, hcs, fun j h => absurd h (Nat.not_lt_zero j), by simp⟩
  · have hlm : len ≤ m := by rw [hmm]; split <;> omega
    have each : ∀ i, i < len → ∃ y : α, ∃ vs, vs.length = s ∧ (∀ k (hk : k < vs.length), W.cell? (a.add (i * s + k)) = some vs[k]) ∧ E vs y := fun i hlt => by
      obtain ⟨cs', hc, ht'⟩ := hi i (by omega)
      rw [hs] at hc
      obtain ⟨y, hy⟩ := hE ht'
      obtain ⟨_, hlen, hat⟩ := World.cells?_some hc
      refine ⟨y, cs', hlen, fun k hk => ?_, hy⟩
      have := hat k (by omega)
      rw [Go.Deep.add_add] at this
      rw [this]
      simp [List.getElem?_eq_getElem hk]
    refine ⟨some a, (List.range len).attach.map (fun i => Classical.choose (each i.1 (List.mem_range.1 i.2))), cap, by simp, fun j hj => ?_, by simp; unfold maxLen at hm; omega⟩
    have hil : j < len := by simpa using hj
    obtain ⟨vs, h1, h2, h3⟩ := Classical.choose_spec (each j hil)
    obtain ⟨_, vs0, g1, g2, _⟩ := each 0 (by omega)
    have hk0 := g2 0 (by omega)
    rw [Nat.zero_mul] at hk0
    obtain ⟨b, off, spot⟩ := a
    have hspot : spot = none := by simpa [Addr.add] using World.cell?_spot hk0
    subst hspot
    rw [add_plain] at hk0
    refine ⟨b, off, vs, rfl, cell_in hk0, h1, fun k hk => ?_, by simpa using h3⟩
    have := h2 k hk
    rw [add_plain] at this
    rw [show off + j * s + k = off + (j * s + k) by omega]
    exact this
theorem u16s_trod {spare : Nat → Bool} {held : Bool} {fuel : Nat} {cs : List Value} {x : DataW H × List MemPlace} (h : DataW.trod enc Tryd.prog W base spare held fuel 22 cs = some x) :
    ∃ a : List Int, ∃ A ca, cs = [.slice A a.length ca] ∧ U16s W.heap.size W A a ∧ a.length ≤ 9223372036854775807 := by
  obtain ⟨A, l, ca, e, hr, h8⟩ := slice_of (s := 1) (E := fun vs (a : Int) => vs = [.int .u16 a] ∧ 0 ≤ a ∧ a ≤ 65535) Tryd.underlying22 cellsU16 (by decide) (fun h => by
    obtain ⟨a, e1, e2, hw⟩ := DataW.trod_int Tryd.underlying55 h
    simp [Lit.wf, IntKind.min, IntKind.max, IntKind.bits, IntKind.signed] at hw
    exact ⟨a, e1, by omega, by omega⟩) h
  refine ⟨l, A, ca, e, ⟨fun c hc => ?_, fun hne => ?_⟩, h8⟩
  · obtain ⟨i, hi, rfl⟩ := List.mem_iff_getElem.1 hc
    obtain ⟨_, _, _, _, _, _, _, _, q⟩ := hr i hi
    exact q
  · obtain ⟨b, off, vs, rfl, hb, _⟩ := hr 0 (List.length_pos_iff.2 hne)
    refine ⟨b, off, rfl, hb, fun j hj => ?_⟩
    obtain ⟨b', off', vs, e1, _, _, hc, rfl, _⟩ := hr j hj
    cases e1
    have := hc 0 (by simp)
    simpa using this
theorem cellsU16s : Tryd.prog.cellsOf 22 = 1 := by kernel_rfl
theorem open_css {v : Value} {d : DataW H} {p : List MemPlace} (hv : Value.okWide Tryd.prog W .any base 26 v) (h : DataW.Trod enc Tryd.prog W 0 (fun _ => true) true 26 v d p) :
    ∃ A n ca cs, v = .slice A n ca ∧ n = List.length cs ∧ n ≤ 9223372036854775807 ∧ Css W A cs := by
  obtain ⟨a0, len, cap, rfl⟩ := okWide_slice Tryd.underlying26 hv
  obtain ⟨fuel, hf⟩ := h
  obtain ⟨A, l, ca, e, hr, h8⟩ := slice_of (s := 1) (E := fun vs (a : List Int) => ∃ P cp, vs = [.slice P a.length cp] ∧ U16s W.heap.size W P a) Tryd.underlying26 cellsU16s (by decide) (fun h => by
    obtain ⟨a, P, cp, e1, e2, _⟩ := u16s_trod h
    exact ⟨a, P, cp, e1, e2⟩) hf
  simp [Value.cells] at e
  obtain ⟨rfl, rfl, rfl⟩ := e
  refine ⟨_, _, _, l, rfl, rfl, h8, fun j hj => ?_⟩
  obtain ⟨b, off, vs, e1, hb, _, hc, P, cp, rfl, hu⟩ := hr j hj
  have := hc 0 (by simp)
  exact ⟨b, off, P, cp, e1, hb, by simpa using this, hu⟩
end
end Go.Proofs.YtkphbjppmiefkaaDoor
