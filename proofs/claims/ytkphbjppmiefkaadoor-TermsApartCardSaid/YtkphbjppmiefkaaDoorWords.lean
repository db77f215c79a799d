/- Words for memory: a slice of spans that reads as a list; the package's table of areas. -/
import Derived.RangeFuncNested
import Derived.RangeFuncBound
import Derived.RangeFuncCalls
import Derived.RangeFuncLeaves
import Derived.RangeFuncBox
import Derived.Shelf.Abstract
import Derived.Shelf.RegionOpen
import Derived.WalkKit
import Derived.OwnWalkIn
import Derived.TacticsInMore
import Derived.LoopNIn
import Derived.LoopIn
import Derived.Lib.Hide
import Derived.Test.YtkphbjppmiefkaaDoorProg
import Derived.Test.YtkphbjppmiefkaaDoorMath
namespace Go.Proofs.YtkphbjppmiefkaaDoor
open Go.RowKit Go.Shelf SetM

/-- The pairs of ends that the iterator may hand over. -/
abbrev End := { x : Sp // 0 ≤ x.1 ∧ x.1 ≤ x.2 ∧ x.2 ≤ 1114111 }
def endE (x : End) : Array Value := #[.int .i64 x.1.1, .int .i64 x.1.2]
/-- The ends that spans tell, each with its bounds. -/
def endsE (l : List Sp) : List End := (endsL l).pmap (fun x h => ⟨x, h⟩) (fun x hx => endsL_in l x hx)
theorem endsE_val (l : List Sp) : (endsE l).map (·.1) = endsL l := by
  unfold endsE; rw [List.map_pmap]; simp

/-- The slice value holds the spans l, in a block below n₀ (or there are none). -/
def Spans (n₀ : Nat) (W : World) (A : Option Addr) (l : List Sp) : Prop :=
  l ≠ [] → ∃ b off, A = some ⟨b, off, none⟩ ∧ b < n₀ ∧ ∀ j (h : j < l.length), W.cell? ⟨b, off + j * 2, none⟩ = some (.int .i64 l[j].1) ∧ W.cell? ⟨b, off + j * 2 + 1, none⟩ = some (.int .i64 l[j].2)
theorem Spans.below {n₀ : Nat} {V W : World} (h : Below n₀ V W) {A : Option Addr} {l : List Sp} (hs : Spans n₀ V A l) : Spans n₀ W A l := fun hl => by
  obtain ⟨b, off, e, hb, hc⟩ := hs hl
  exact ⟨b, off, e, hb, fun j hj => ⟨(h.cell (p := ⟨b, off + j * 2, none⟩) hb).trans (hc j hj).1, (h.cell (p := ⟨b, off + j * 2 + 1, none⟩) hb).trans (hc j hj).2⟩⟩
theorem Spans.mono {n₀ n₁ : Nat} {W : World} {A : Option Addr} {l : List Sp} (hs : Spans n₀ W A l) (h : n₀ ≤ n₁) : Spans n₁ W A l := fun hl => by
  obtain ⟨b, off, e, hb, hc⟩ := hs hl
  exact ⟨b, off, e, by omega, hc⟩
theorem Spans.nil {n₀ : Nat} {W : World} {A : Option Addr} : Spans n₀ W A [] := fun h => absurd rfl h

/-- What the package's table of areas holds. -/
def Areas (W : World) : Prop :=
  W.cell? ⟨0, 0, none⟩ = some (.int .i64 0) ∧ W.cell? ⟨0, 1, none⟩ = some (.int .i64 55295) ∧
  W.cell? ⟨0, 2, none⟩ = some (.int .i64 57344) ∧ W.cell? ⟨0, 3, none⟩ = some (.int .i64 1114111)
theorem Areas.below {n₀ : Nat} {V W : World} (h : Below n₀ V W) (h0 : 0 < n₀) (hs : Areas V) : Areas W :=
  ⟨(h.cell (p := ⟨0, 0, none⟩) h0).trans hs.1, (h.cell (p := ⟨0, 1, none⟩) h0).trans hs.2.1, (h.cell (p := ⟨0, 2, none⟩) h0).trans hs.2.2.1, (h.cell (p := ⟨0, 3, none⟩) h0).trans hs.2.2.2⟩
end Go.Proofs.YtkphbjppmiefkaaDoor
