
/- The law's Make: spans as choices say. -/
import Derived.Test.YtjhbjgpkpcfdmaaDoorOne
namespace Go.Proofs.YtjhbjgpkpcfdmaaDoor
open Go.RowKit Go.Shelf SetM

/-- A slice of uint16 holds the numbers cs. -/
def U16s (n₀ : Nat) (W : World) (A : Option Addr) (cs : List Int) : Prop :=
  (∀ c ∈ cs, 0 ≤ c ∧ c ≤ 65535) ∧ (cs ≠ [] → ∃ b off, A = some ⟨b, off, none⟩ ∧ b < n₀ ∧ ∀ j (h : j < cs.length), W.cell? ⟨b, off + j, none⟩ = some (.int .u16 cs[j]))
theorem U16s.below {n₀ : Nat} {V W : World} (h : Below n₀ V W) {A : Option Addr} {cs : List Int} (hs : U16s n₀ V A cs) : U16s n₀ W A cs :=
  ⟨hs.1, fun hl => by
    obtain ⟨b, off, e, hb, hc⟩ := hs.2 hl
    exact ⟨b, off, e, hb, fun j hj => (h.cell (p := ⟨b, off + j, none⟩) hb).trans (hc j hj)⟩⟩
theorem U16s.mono {n₀ n₁ : Nat} {W : World} {A : Option Addr} {cs : List Int} (hs : U16s n₀ W A cs) (h : n₀ ≤ n₁) : U16s n₁ W A cs :=
  ⟨hs.1, fun hl => by
    obtain ⟨b, off, e, hb, hc⟩ := hs.2 hl
    exact ⟨b, off, e, by omega, hc⟩⟩
/-- The span of the j-th pair of choices; those of the first m pairs; all. -/
def pairF (cs : List Int) (j : Nat) : Sp := (placeF (cs[2 * j]?.getD 0), placeF (cs[2 * j]?.getD 0) + cs[2 * j + 1]?.getD 0 % 40)
def mkTo (cs : List Int) (m : Nat) : List Sp := (List.range m).map (pairF cs)
def mkN (cs : List Int) : Nat := min (cs.length / 2) 30
def makeF (cs : List Int) : List Sp := mkTo cs (mkN cs)
theorem mkTo_succ (cs : List Int) (m : Nat) : mkTo cs (m + 1) = mkTo cs m ++ [pairF cs m] := by simp [mkTo, List.range_succ]
theorem mkTo_len (cs : List Int) (m : Nat) : (mkTo cs m).length = m := by simp [mkTo]
theorem makeF_len (cs : List Int) : (makeF cs).length ≤ 30 := by unfold makeF; rw [mkTo_len]; unfold mkN; omega

end Go.Proofs.YtjhbjgpkpcfdmaaDoor
