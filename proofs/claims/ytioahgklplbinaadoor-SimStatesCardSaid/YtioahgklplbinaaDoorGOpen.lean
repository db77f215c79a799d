/- A slice of ints that came in, opened. -/
import Derived.Test.YtioahgklplbinaaDoorNKit
namespace Go.Proofs.YtioahgklplbinaaDoor
open Go.ChangeShapes Go.WideShapes Go.ChangeAt Go.RowKit SetM NfaM
set_option maxRecDepth 100000
section
variable {H : Type} {enc : TypeId × Value → H} {W : World} {base : Nat}
theorem open_ints {v : Value} {d : DataW H} {p : List MemPlace} (hv : Value.okWide Tryd.prog W .any base 24 v) (h : DataW.Trod enc Tryd.prog W 0 (fun _ => true) true 24 v d p) :
    ∃ A n ca l, v = .slice A n ca ∧ n = List.length l ∧ n ≤ 9223372036854775807 ∧ InR W A l := by
  obtain ⟨a0, len, cap, rfl⟩ := okWide_slice Tryd.underlying24 hv
  obtain ⟨fuel, hf⟩ := h
  obtain ⟨l, A, ca, e, hr, h8⟩ := ints_trod hf
  simp [Value.cells] at e
  obtain ⟨rfl, rfl, rfl⟩ := e
  exact ⟨_, _, _, l, rfl, rfl, h8, hr⟩
end
end Go.Proofs.YtioahgklplbinaaDoor
