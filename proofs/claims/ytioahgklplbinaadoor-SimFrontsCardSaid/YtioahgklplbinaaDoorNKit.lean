/- Arguments opened: slices at any depth, by a word for an element; machines; rows of bytes. What the tie of the table gives. -/
import Derived.Test.YtioahgklplbinaaDoorOpenW
import Derived.Test.YtioahgklplbinaaDoorRN
import Derived.Test.YtioahgklplbinaaDoorVM
import Derived.Test.YtioahgklplbinaaDoorNInv
import Derived.Test.YtioahgklplbinaaDoorWE
import Derived.Test.YtioahgklplbinaaDoorPURE
import Derived.RegionTactic
import Derived.ChangeAlike
import Derived.Deep.LoopGhost
import Derived.Deep.QuietTactic
import Derived.BigQuiet
import Derived.Handy
import Derived.Deep.RegionHeld3
import Derived.WalkSmall
import Derived.IntWalk
import Derived.Test.YtioahgklplbinaaDoorSET
import Derived.Laws.AppendOwnNone
import Derived.Lib.Hide
import Derived.WalkKit
import Derived.WalkMore
import Derived.Outline
import Derived.Deep.DeepCutAuto
import Derived.Maps.OwnOps
import Derived.Maps.OwnSet
import Derived.Maps.Views
import Derived.Sort.KeysCollected
import Derived.Laws.BytesArg
import Derived.Laws.Concat
import Derived.Laws.Strings2
import Derived.Test.YtioahgklplbinaaDoorRE
import Derived.Deep.AppendLies
import Derived.Deep.RegionLaw
import Derived.Lib.IndexAny
import Derived.Shelf.SlicesQ.IndexFunc
import Derived.Laws.IdiomStrings
import Derived.Laws.Strings3
import Derived.BigCall
import Derived.BigGuard
import Derived.Test.YtioahgklplbinaaDoorRR
import Derived.Lib.SlBytesConst
import Derived.Test.YtioahgklplbinaaDoorRO
import Derived.Deep.CutRange
import Derived.Deep.CutBlock
import Derived.Deep.RegionWith
import Derived.BigRegion
import Derived.Laws.StructEq
import Derived.Test.YtioahgklplbinaaDoorKIT
import Derived.Test.YtioahgklplbinaaDoorVREF
import Derived.Test.YtioahgklplbinaaDoorNCT
import Derived.Laws.IdiomCopy
import Derived.Laws.OwnMore
import Derived.Test.YtioahgklplbinaaDoorNMW
namespace Go.Proofs.YtioahgklplbinaaDoor
open Go.ChangeShapes Go.WideShapes Go.ChangeAt Go.RowKit SetM NfaM
set_option maxRecDepth 100000
section
variable {H : Type} {enc : TypeId × Value → H} {W : World} {base : Nat}
/-- A slice whose cells read, element by element, by E. -/
def RowOf {α : Type} (W : World) (s : Nat) (E : List Value → α → Prop) (A : Option Addr) (l : List α) : Prop :=
  ∀ j (h : j < l.length), ∃ b off vs, A = some ⟨b, off, none⟩ ∧ b < W.heap.size ∧ vs.length = s ∧ (∀ k (hk : k < vs.length), W.cell? ⟨b, off + j * s + k, none⟩ = some vs[k]) ∧ E vs l[j]
/-- A slice opened, by what is read of an element. -/
theorem slice_of {α : Type} {t e : TypeId} {s : Nat} {E : List Value → α → Prop} (ht : Tryd.prog.underlying t = some (.slice e)) (hs : Tryd.prog.cellsOf e = s) (h0 : 0 < s) {spare : Nat → Bool} {held : Bool}
    (hE : ∀ {fuel : Nat} {cs : List Value} {x : DataW H × List MemPlace}, DataW.trod enc Tryd.prog W base spare held fuel e cs = some x → ∃ a, E cs a) {fuel : Nat} {cs : List Value} {x : DataW H × List MemPlace} (h : DataW.trod enc Tryd.prog W base spare held fuel t cs = some x) :
    ∃ A l ca, cs = [.slice A (List.length l) ca] ∧ RowOf W s E A l ∧ l.length ≤ 9223372036854775807 := by
  rcases Go.Deep.open_slice ht h with ⟨hcs, _⟩ | ⟨a, len, cap, m, n, D, Pl, rfl, _, hl, hm, hmm, hx, hi⟩
  · exact ⟨none, [], 0, hcs, fun j h => absurd h (Nat.not_lt_zero j), by simp⟩
  · have hlm : len ≤ m := by rw [hmm]; split <;> omega
    have each : ∀ i, i < len → ∃ y : α, ∃ vs, vs.length = s ∧ (∀ k (hk : k < vs.length), W.cell? (a.add (i * s + k)) = some vs[k]) ∧ E vs y := fun i hlt => by
      obtain ⟨cs', hc, ht'⟩ := hi i (by omega)
      rw [hs] at hc
      obtain ⟨y, hy⟩ := hE ht'
      obtain ⟨_, hlen, hat⟩ := World.cells?_some hc
      refine ⟨y, cs', hlen, fun k hk => ?_, hy⟩
      have := hat k (by omega)
      rw [Go.Deep.add_add] at this
      rw [this]
      simp [List.getElem?_eq_getElem hk]
    refine ⟨some a, (List.range len).attach.map (fun i => Classical.choose (each i.1 (List.mem_range.1 i.2))), cap, by simp, fun j hj => ?_, by simp; unfold maxLen at hm; omega⟩
    have hil : j < len := by simpa using hj
    obtain ⟨vs, h1, h2, h3⟩ := Classical.choose_spec (each j hil)
    obtain ⟨_, vs0, g1, g2, _⟩ := each 0 (by omega)
    have hk0 := g2 0 (by omega)
    rw [Nat.zero_mul] at hk0
    obtain ⟨b, off, spot⟩ := a
    have hspot : spot = none := by simpa [Addr.add] using World.cell?_spot hk0
    subst hspot
    rw [add_plain] at hk0
    refine ⟨b, off, vs, rfl, cell_in hk0, h1, fun k hk => ?_, by simpa using h3⟩
    have := h2 k hk
    rw [add_plain] at this
    rw [show off + j * s + k = off + (j * s + k) by omega]
    exact this
theorem cellsEdge : Tryd.prog.cellsOf 47 = 2 := by kernel_rfl
theorem cellsEdges : Tryd.prog.cellsOf 44 = 1 := by kernel_rfl
theorem cellsInts : Tryd.prog.cellsOf 24 = 1 := by kernel_rfl
theorem cellsEss : Tryd.prog.cellsOf 27 = 1 := by kernel_rfl
theorem cellsIss : Tryd.prog.cellsOf 28 = 1 := by kernel_rfl
theorem cellsSps : Tryd.prog.cellsOf 45 = 1 := by kernel_rfl
theorem ints_trod {spare : Nat → Bool} {held : Bool} {fuel : Nat} {cs : List Value} {x : DataW H × List MemPlace} (h : DataW.trod enc Tryd.prog W base spare held fuel 24 cs = some x) :
    ∃ a : List Int, ∃ A ca, cs = [.slice A a.length ca] ∧ InR W A a ∧ a.length ≤ 9223372036854775807 := by
  obtain ⟨A, l, ca, e, hr, h8⟩ := slice_of (s := 1) (E := fun vs (a : Int) => vs = [.int .i64 a]) Tryd.underlying24 cellsInt (by decide) (fun h => by
    obtain ⟨a, e1, e2, hw⟩ := DataW.trod_int Tryd.underlying3 h
    exact ⟨a, e1⟩) h
  refine ⟨l, A, ca, e, fun k hk => ?_, h8⟩
  obtain ⟨b, off, vs, e1, hb, _, hc, rfl⟩ := hr k hk
  have := hc 0 (by simp)
  exact ⟨b, off, e1, hb, by simpa using this⟩
theorem spans_trodW {spare : Nat → Bool} {held : Bool} {fuel : Nat} {cs : List Value} {x : DataW H × List MemPlace} (h : DataW.trod enc Tryd.prog W base spare held fuel 45 cs = some x) :
    ∃ l : List Sp, ∃ A ca, cs = [.slice A l.length ca] ∧ Sl W A l ∧ Wide l ∧ l.length ≤ 9223372036854775807 := by
  obtain ⟨A, l, ca, e, hr, h8⟩ := slice_of (s := 2) (E := fun vs (a : Sp) => vs = [.int .i64 a.1, .int .i64 a.2] ∧ -9223372036854775808 ≤ a.2) Tryd.underlying45 cellsSpan (by decide) (fun h => by
    obtain ⟨lo, hi, rfl, _⟩ := span_cells h
    exact ⟨(lo, hi), rfl, span_wide h⟩) h
  refine ⟨l, A, ca, e, fun hne => ?_, fun s hs => ?_, h8⟩
  · obtain ⟨b, off, _, rfl, hb, _⟩ := hr 0 (List.length_pos_iff.2 hne)
    refine ⟨b, off, rfl, hb, fun j hj => ?_⟩
    obtain ⟨b', off', vs, e1, _, _, hc, rfl, _⟩ := hr j hj
    cases e1
    exact ⟨hc 0 (by simp), hc 1 (by simp)⟩
  · obtain ⟨i, hi, rfl⟩ := List.mem_iff_getElem.1 hs
    obtain ⟨_, _, _, _, _, _, _, _, q⟩ := hr i hi
    exact q
/-- What an edge's cells say. -/
def EdgeC (W : World) (vs : List Value) (e : Int × List Sp) : Prop := ∃ sp sc, vs = [.int .i64 e.1, .slice sp e.2.length sc] ∧ Sl W sp e.2 ∧ Wide e.2 ∧ e.2.length ≤ 9223372036854775807
theorem edge_trod {spare : Nat → Bool} {held : Bool} {fuel : Nat} {cs : List Value} {x : DataW H × List MemPlace} (h : DataW.trod enc Tryd.prog W base spare held fuel 47 cs = some x) : ∃ e, EdgeC W cs e := by
  obtain ⟨xs, n, _, hx, hl, hn, hf⟩ := DataW.trod_struct Tryd.underlying47 h
  rw [cellsEdge] at hl
  match cs, hl with
  | [c0, c1], _ =>
    match xs, hn with
    | [y0, y1], _ =>
      have h0 : DataW.trod enc Tryd.prog W base spare held n 3 (([c0, c1].drop 0).take (Tryd.prog.cellsOf 3)) = some y0 := hf 0 _ rfl
      have h1 : DataW.trod enc Tryd.prog W base spare held n 45 (([c0, c1].drop 1).take (Tryd.prog.cellsOf 45)) = some y1 := hf 1 _ rfl
      rw [cellsInt] at h0
      rw [cellsSps] at h1
      obtain ⟨a, ha, _, _⟩ := DataW.trod_int Tryd.underlying3 h0
      obtain ⟨l, A, ca, hb, h2, h3, h4⟩ := spans_trodW h1
      simp at ha hb
      subst ha hb
      exact ⟨(a, l), A, ca, rfl, h2, h3, h4⟩
theorem edges_trod {spare : Nat → Bool} {held : Bool} {fuel : Nat} {cs : List Value} {x : DataW H × List MemPlace} (h : DataW.trod enc Tryd.prog W base spare held fuel 44 cs = some x) :
    ∃ es : List (Int × List Sp), ∃ A ca, cs = [.slice A es.length ca] ∧ EdR W A es ∧ es.length ≤ 9223372036854775807 ∧ ∀ e ∈ es, e.2.length ≤ 9223372036854775807 ∧ Wide e.2 := by
  obtain ⟨A, l, ca, e, hr, h8⟩ := slice_of (s := 2) (E := EdgeC W) Tryd.underlying44 cellsEdge (by decide) edge_trod h
  refine ⟨l, A, ca, e, fun k hk => ?_, h8, fun e he => ?_⟩
  · obtain ⟨b, off, vs, e1, hb, _, hc, sp, sc, rfl, h2, h3, h4⟩ := hr k hk
    exact ⟨b, off, sp, sc, e1, hb, hc 0 (by simp), hc 1 (by simp), h2⟩
  · obtain ⟨i, hi, rfl⟩ := List.mem_iff_getElem.1 he
    obtain ⟨_, _, _, _, _, _, _, _, _, _, h2, h3, h4⟩ := hr i hi
    exact ⟨h4, h3⟩
/-- A slice of slices. -/
theorem rows2 {α : Type} {A : Option Addr} {l : List (List α)} {F : Option Addr → List α → Prop} (hr : RowOf W 1 (fun vs (a : List α) => ∃ A ca, vs = [.slice A a.length ca] ∧ F A a) A l) :
    ∀ i (_ : i < l.length), ∃ g o P c, A = some ⟨g, o, none⟩ ∧ g < W.heap.size ∧ W.cell? ⟨g, o + i, none⟩ = some (.slice P l[i].length c) ∧ F P l[i] := fun i hi => by
  obtain ⟨b, off, vs, e1, hb, _, hc, P, c, rfl, hf⟩ := hr i hi
  have := hc 0 (by simp)
  rw [Nat.mul_one] at this
  exact ⟨b, off, P, c, e1, hb, this, hf⟩
/-- What a machine that came in is. -/
structure NfaIn (W : World) (p0 p1 p2 : Option Addr) (m : Mc) : Prop where
  mr : MR W p0 p1 p2 m
  ed : ∀ i < m.ed.length, (m.ed.getD i []).length ≤ 9223372036854775807 ∧ ∀ e ∈ m.ed.getD i [], e.2.length ≤ 9223372036854775807 ∧ Wide e.2
  fr : ∀ i < m.fr.length, (m.fr.getD i []).length ≤ 9223372036854775807
theorem cellsNfa : Tryd.prog.cellsOf 30 = 3 := by kernel_rfl
theorem open_nfa {v : Value} {d : DataW H} {p : List MemPlace} (hv : Value.okWide Tryd.prog W .any base 30 v) (h : DataW.Trod enc Tryd.prog W 0 (fun _ => true) true 30 v d p) :
    ∃ p0 n0 c0 p1 n1 c1 p2 n2 c2 m, v = .agg #[.slice p0 n0 c0, .slice p1 n1 c1, .slice p2 n2 c2] ∧ n0 = m.ed.length ∧ n1 = m.fr.length ∧ n2 = m.tg.length ∧ NfaIn W p0 p1 p2 m := by
  obtain ⟨cs, rfl, hsz⟩ := okWide_struct Tryd.underlying30 hv
  obtain ⟨fuel, hf⟩ := h
  obtain ⟨xs, n, _, hx, hl, hn, hg⟩ := DataW.trod_struct Tryd.underlying30 hf
  obtain ⟨cs⟩ := cs
  rw [cellsNfa] at hsz
  match cs, hsz with
  | [c0, c1, c2], _ =>
    match xs, hn with
    | [y0, y1, y2], _ =>
      have h0 : DataW.trod enc Tryd.prog W 0 (fun _ => true) true n 27 (([c0, c1, c2].drop 0).take (Tryd.prog.cellsOf 27)) = some y0 := hg 0 _ rfl
      have h1 : DataW.trod enc Tryd.prog W 0 (fun _ => true) true n 28 (([c0, c1, c2].drop 1).take (Tryd.prog.cellsOf 28)) = some y1 := hg 1 _ rfl
      have h2 : DataW.trod enc Tryd.prog W 0 (fun _ => true) true n 24 (([c0, c1, c2].drop 2).take (Tryd.prog.cellsOf 24)) = some y2 := hg 2 _ rfl
      rw [cellsEss] at h0
      rw [cellsIss] at h1
      rw [cellsInts] at h2
      obtain ⟨A0, l0, ca0, e0, r0, _⟩ := slice_of (s := 1) (E := fun vs (a : List (Int × List Sp)) => ∃ A ca, vs = [.slice A a.length ca] ∧ EdR W A a ∧ a.length ≤ 9223372036854775807 ∧ ∀ e ∈ a, e.2.length ≤ 9223372036854775807 ∧ Wide e.2) Tryd.underlying27 cellsEdges (by decide) edges_trod h0
      obtain ⟨A1, l1, ca1, e1, r1, _⟩ := slice_of (s := 1) (E := fun vs (a : List Int) => ∃ A ca, vs = [.slice A a.length ca] ∧ InR W A a ∧ a.length ≤ 9223372036854775807) Tryd.underlying28 cellsInts (by decide) ints_trod h1
      obtain ⟨l2, A2, ca2, e2, r2, _⟩ := ints_trod h2
      simp at e0 e1 e2
      subst e0 e1 e2
      have q0 := rows2 r0
      have q1 := rows2 r1
      refine ⟨A0, _, ca0, A1, _, ca1, A2, _, ca2, ⟨l0, l1, l2⟩, rfl, rfl, rfl, rfl, ⟨fun i hi => ?_, fun i hi => ?_, r2⟩, fun i hi => ?_, fun i hi => ?_⟩
      · obtain ⟨g, o, P, c, a1, a2, a3, a4, _⟩ := q0 i hi
        exact ⟨g, o, P, c, a1, a2, a3, a4⟩
      · obtain ⟨g, o, P, c, a1, a2, a3, a4, _⟩ := q1 i hi
        exact ⟨g, o, P, c, a1, a2, a3, a4⟩
      · obtain ⟨_, _, _, _, _, _, _, _, a5, a6⟩ := q0 i hi
        rw [getD_of hi]
        exact ⟨a5, a6⟩
      · obtain ⟨_, _, _, _, _, _, _, _, a5⟩ := q1 i hi
        rw [getD_of hi]
        exact a5
end
end Go.Proofs.YtioahgklplbinaaDoor
