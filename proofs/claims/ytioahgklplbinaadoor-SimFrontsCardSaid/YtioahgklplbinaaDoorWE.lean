/- Words, Ends, RBox, UWords, UEnc, UDec, UChars, in one text. -/
/- Words for memory: a slice of spans that reads as a list; the package's table of areas. -/
import Derived.RangeFuncNested
import Derived.RangeFuncBound
import Derived.RangeFuncCalls
import Derived.RangeFuncLeaves
import Derived.RangeFuncBox
import Derived.Shelf.Abstract
import Derived.Shelf.RegionOpen
import Derived.WalkKit
import Derived.OwnWalkIn
import Derived.TacticsInMore
import Derived.LoopNIn
import Derived.LoopIn
import Derived.Lib.Hide
import Derived.Test.YtioahgklplbinaaDoorProg
import Derived.Test.YtioahgklplbinaaDoorPURE
import Derived.Outline
import Derived.WalkMore
import Derived.Deep.LoopGhost
import Derived.Deep.QuietTactic
import Derived.BigQuiet
import Derived.Deep.DeepCutAuto
import Derived.WalkLawsBesides
import Derived.Laws.BitsLemmas
import Derived.Laws.BitsAllLaws
import Derived.StillTailTactics
namespace Go.Proofs.YtioahgklplbinaaDoor
open Go.RowKit Go.Shelf SetM

/-- The slice value holds the spans l, in a block below n₀ (or there are none). -/
def Spans (n₀ : Nat) (W : World) (A : Option Addr) (l : List Sp) : Prop :=
  l ≠ [] → ∃ b off, A = some ⟨b, off, none⟩ ∧ b < n₀ ∧ ∀ j (h : j < l.length), W.cell? ⟨b, off + j * 2, none⟩ = some (.int .i64 l[j].1) ∧ W.cell? ⟨b, off + j * 2 + 1, none⟩ = some (.int .i64 l[j].2)
theorem Spans.below {n₀ : Nat} {V W : World} (h : Below n₀ V W) {A : Option Addr} {l : List Sp} (hs : Spans n₀ V A l) : Spans n₀ W A l := fun hl => by
  obtain ⟨b, off, e, hb, hc⟩ := hs hl
  exact ⟨b, off, e, hb, fun j hj => ⟨(h.cell (p := ⟨b, off + j * 2, none⟩) hb).trans (hc j hj).1, (h.cell (p := ⟨b, off + j * 2 + 1, none⟩) hb).trans (hc j hj).2⟩⟩
theorem Spans.mono {n₀ n₁ : Nat} {W : World} {A : Option Addr} {l : List Sp} (hs : Spans n₀ W A l) (h : n₀ ≤ n₁) : Spans n₁ W A l := fun hl => by
  obtain ⟨b, off, e, hb, hc⟩ := hs hl
  exact ⟨b, off, e, by omega, hc⟩
theorem Spans.nil {n₀ : Nat} {W : World} {A : Option Addr} : Spans n₀ W A [] := fun h => absurd rfl h

/-- What the package's table of areas holds. -/
def Areas (W : World) : Prop :=
  W.cell? ⟨0, 0, none⟩ = some (.int .i64 0) ∧ W.cell? ⟨0, 1, none⟩ = some (.int .i64 55295) ∧
  W.cell? ⟨0, 2, none⟩ = some (.int .i64 57344) ∧ W.cell? ⟨0, 3, none⟩ = some (.int .i64 1114111)
end Go.Proofs.YtioahgklplbinaaDoor

/- The iterator of spans' ends: its contract. -/

/- A variable that holds a node: five cells. -/
namespace Go.Proofs.YtioahgklplbinaaDoor
open Go.RowKit Go.Shelf SetM

theorem heap_setC (W : World) (R : Nat) (cs : Array Value) (t : TypeId) (h : W.heap[R]? = some (.cells cs t (0, 0))) (i : Nat) (v : Value) : (W.setCell ⟨R, i, none⟩ v).heap[R]? = some (.cells (cs.set! i v) t (0, 0)) := by
  obtain ⟨hlt, hk⟩ := Array.getElem?_eq_some_iff.1 h
  show (W.heap.modify R _)[R]? = _
  rw [Array.getElem?_eq_getElem (by rw [Array.size_modify]; exact hlt), Array.getElem_modify_self, hk]
  rfl
end Go.Proofs.YtioahgklplbinaaDoor

/- Words for memory: a slice of bytes that reads as a list of numbers. -/

/- utf.Encode: a scalar's bytes. -/

/- utf.Decode: the first char of bytes. -/

/- utf.Chars: all chars of bytes. -/
namespace Go.Proofs.YtioahgklplbinaaDoor.U
open Go.RowKit Go.Shelf UtfM

theorem cell_news (w : World) (l : List Value) (t : TypeId) : ∀ j u, l[j]? = some u → (w.alloc (.cells l.toArray t)).cell? ((⟨w.heap.size, 0, none⟩ : Addr).add j) = some u := by
  intro j u hj
  have : ((⟨w.heap.size, 0, none⟩ : Addr).add j) = ⟨w.heap.size, j, none⟩ := by unfold Addr.add; split <;> simp_all
  rw [this, cell_of_row _ w.heap.size j l.toArray t (0, 0) (heap_alloc_new w _)]
  simpa using hj
end Go.Proofs.YtioahgklplbinaaDoor.U
