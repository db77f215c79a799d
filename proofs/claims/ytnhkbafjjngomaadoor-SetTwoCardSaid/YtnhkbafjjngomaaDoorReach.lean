/- The length of a slice of spans that came in is bounded by its weight. -/
import Derived.Test.YtnhkbafjjngomaaDoorOpenW
import Derived.SizedLaws
namespace Go.Proofs.YtnhkbafjjngomaaDoor
open Go.ChangeShapes Go.WideShapes Go.ChangeAt Go.RowKit SetM
theorem bytesSpan : Tryd.prog.bytesOf 27 = 16 := by kernel_rfl
section
variable {H : Type} {enc : TypeId × Value → H} {W : World} {base : Nat}
theorem open_len {A : Option Addr} {n ca : Nat} {d : DataW H} {p : List MemPlace} (h : DataW.Trod enc Tryd.prog W 0 (fun _ => true) true 24 (.slice A n ca) d p) :
    n = 0 ∨ ∃ elems spare, d = .slice elems spare ∧ elems.length = n := by
  obtain ⟨fuel, hf⟩ := h
  rcases Go.Deep.open_slice Tryd.underlying24 hf with ⟨hcs, _⟩ | ⟨a, len', cap', m, k, D, Pl, hcs, _, hl, hm, hmm, hx, hi⟩
  · simp [Value.cells] at hcs
    exact .inl hcs.2.1
  · simp [Value.cells] at hcs
    obtain ⟨rfl, rfl, rfl⟩ := hcs
    injection hx with h1 h2
    exact .inr ⟨_, _, h1, by simp⟩
theorem len_reach {ts : List TypeId} {ds : List (DataW H)} (hsz : (DataW.weightsEach Tryd.prog ts ds).all (· ≤ reachBytes) = true) {j : Nat} {A : Option Addr} {n ca : Nat} {d : DataW H} {p : List MemPlace} (ht : ts[j]? = some 24) (hd : ds[j]? = some d)
    (h : DataW.Trod enc Tryd.prog W 0 (fun _ => true) true 24 (.slice A n ca) d p) : n ≤ 140737488351232 := by
  rcases open_len h with rfl | ⟨elems, spare, rfl, rfl⟩
  · omega
  · have := sized_slice hsz ht hd Tryd.underlying24
    rw [bytesSpan] at this
    have e : reachBytes = 140737488351232 := rfl
    rw [e] at this
    omega
end
end Go.Proofs.YtnhkbafjjngomaaDoor
