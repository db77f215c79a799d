/- VBare, VRSnd, in one text. -/
/- May a node be: the document's look at it. -/
import Derived.Test.YtioahgklplbinaaDoorRN
import Derived.Test.YtioahgklplbinaaDoorVM
import Derived.Test.YtioahgklplbinaaDoorRR
import Derived.Deep.RegionWith

/- May a node be, so many below others: the document's look at it. -/
namespace Go.Proofs.YtioahgklplbinaaDoor
open Go.RowKit Go.Shelf Go.Maps SetM PropsM RxM WrM

theorem rnormal_c {W : World} {P : Option Addr} {sc n : Nat} {sl : List Sp} (hn : n = sl.length) (h8 : n ≤ 100000) (hw : Wide sl) (hs : Sl W P sl) : Calls Tryd.prog 32 #[.slice P n sc] W fun e W' => ∃ Q m c out, e = .returned (.slice Q m c) ∧ m = out.length ∧ m ≤ 400000 ∧ (out = sl ↔ Norml sl) ∧ Sl W' Q out ∧ Below W.heap.size W W' := by
  subst hn
  refine (rnorm_n (c := sc) hs h8 hw).mono ?_
  rintro e W' ⟨Q, c, out, rfl, h2, h3, h4, h5, h6, h7⟩
  refine ⟨Q, out.length, c, out, rfl, rfl, by omega, ⟨fun e => ?_, fun hN => ?_⟩, h4, h7⟩
  · subst e
    exact ⟨h2.1, fun r hr => ((h2.2 r).1 hr).1⟩
  · exact nf_unique _ _ h2.1 hN.1 (fun r => (h2.2 r).trans ⟨fun h => h.2, fun h => ⟨hN.2 r h, h⟩⟩)
end Go.Proofs.YtioahgklplbinaaDoor
