/- Words for memory: a slice of bytes that reads as a list of numbers. -/
import Derived.WalkKit
import Derived.WalkLawsBesides
import Derived.Lib.Hide
import Derived.Laws.BitsLemmas
import Derived.Laws.BitsAllLaws
import Derived.BigQuiet
import Derived.Deep.QuietTactic
import Derived.Shelf.RegionOpen
import Derived.Test.YtgaalkcociifmaaDoorProg
import Derived.Test.YtgaalkcociifmaaDoorUMath
namespace Go.Proofs.YtgaalkcociifmaaDoor.U
open Go.RowKit Go.Shelf UtfM

/-- The slice value holds the bytes l, in a block below n₀ (or there are none). -/
def Bytes (n₀ : Nat) (W : World) (A : Option Addr) (l : List Int) : Prop :=
  IsBytes l ∧ (l ≠ [] → ∃ b off, A = some ⟨b, off, none⟩ ∧ b < n₀ ∧ ∀ j (h : j < l.length), W.cell? ⟨b, off + j, none⟩ = some (.int .u8 l[j]))
theorem Bytes.below {n₀ : Nat} {V W : World} (h : Below n₀ V W) {A : Option Addr} {l : List Int} (hs : Bytes n₀ V A l) : Bytes n₀ W A l := ⟨hs.1, fun hl => by
  obtain ⟨b, off, e, hb, hc⟩ := hs.2 hl
  exact ⟨b, off, e, hb, fun j hj => (h.cell (p := ⟨b, off + j, none⟩) hb).trans (hc j hj)⟩⟩
theorem Bytes.mono {n₀ n₁ : Nat} {W : World} {A : Option Addr} {l : List Int} (hs : Bytes n₀ W A l) (h : n₀ ≤ n₁) : Bytes n₁ W A l := ⟨hs.1, fun hl => by
  obtain ⟨b, off, e, hb, hc⟩ := hs.2 hl
  exact ⟨b, off, e, by omega, hc⟩⟩
theorem Bytes.nil {n₀ : Nat} {W : World} {A : Option Addr} : Bytes n₀ W A [] := ⟨IsBytes.nil, fun h => absurd rfl h⟩
/-- A slice of bytes, here and now. -/
def By (W : World) (A : Option Addr) (l : List Int) : Prop := Bytes W.heap.size W A l
theorem By.step {W W' : World} {A : Option Addr} {l : List Int} (h : By W A l) (hb : Below W.heap.size W W') : By W' A l := (Bytes.below hb h).mono hb.size
theorem By.nil {W : World} {A : Option Addr} : By W A [] := Bytes.nil
theorem By.drop {W : World} {b off : Nat} {l : List Int} (h : By W (some ⟨b, off, none⟩) l) (k : Nat) : By W (some ⟨b, off + k, none⟩) (l.drop k) := ⟨h.1.drop k, fun hne => by
  obtain ⟨b', off', e, hb, hc⟩ := h.2 (by intro h0; rw [h0] at hne; simp at hne)
  cases e
  refine ⟨b, off + k, rfl, hb, fun j hj => ?_⟩
  rw [List.length_drop] at hj
  have := hc (k + j) (by omega)
  rw [show off + k + j = off + (k + j) from by omega, this, List.getElem_drop]⟩
theorem By.take {W : World} {A : Option Addr} {l : List Int} (h : By W A l) (k : Nat) : By W A (l.take k) := ⟨h.1.take k, fun hne => by
  obtain ⟨b', off', e, hb, hc⟩ := h.2 (by intro h0; rw [h0] at hne; simp at hne)
  refine ⟨b', off', e, hb, fun j hj => ?_⟩
  rw [List.length_take] at hj
  rw [hc j (by omega), List.getElem_take]⟩
end Go.Proofs.YtgaalkcociifmaaDoor.U
