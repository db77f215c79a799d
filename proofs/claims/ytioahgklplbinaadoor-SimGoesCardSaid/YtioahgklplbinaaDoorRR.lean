/- RR6b, RR6c, RR6d, RR6f, in one text. -/
/- The document's reader at the definition's text: signs that must stand, scalars, sets of them. -/
import Derived.Test.YtioahgklplbinaaDoorWE
import Derived.Test.YtioahgklplbinaaDoorPURE
import Derived.RegionTactic
import Derived.ChangeAlike
import Derived.Deep.LoopGhost
import Derived.Deep.QuietTactic
import Derived.BigQuiet
import Derived.Handy
import Derived.Deep.RegionHeld3
import Derived.WalkSmall
import Derived.IntWalk
import Derived.Test.YtioahgklplbinaaDoorSET
import Derived.Laws.AppendOwnNone
import Derived.Lib.Hide
import Derived.WalkKit
import Derived.WalkMore
import Derived.Outline
import Derived.Deep.DeepCutAuto
import Derived.Maps.OwnOps
import Derived.Maps.OwnSet
import Derived.Maps.Views
import Derived.Sort.KeysCollected
import Derived.Laws.BytesArg
import Derived.Laws.Concat
import Derived.Laws.Strings2
import Derived.Test.YtioahgklplbinaaDoorRE
import Derived.Deep.AppendLies
import Derived.Deep.RegionLaw
import Derived.Lib.IndexAny
import Derived.Shelf.SlicesQ.IndexFunc
import Derived.Laws.IdiomStrings
import Derived.Laws.Strings3
import Derived.BigCall
import Derived.BigGuard
import Derived.Test.YtioahgklplbinaaDoorRN
import Derived.Test.YtioahgklplbinaaDoorRO
import Derived.Lib.SlBytesConst
import Derived.Deep.RegionWith
import Derived.BigRegion
import Derived.Laws.StructEq
namespace Go.Proofs.YtioahgklplbinaaDoor
open Go.RowKit Go.Shelf Go.Maps SetM PropsM RxM
variable {R : Nat} {W : World} {i : Nat}

set_option maxRecDepth 100000 in
set_option maxHeartbeats 1000000 in
theorem rnorm_n {W : World} {P : Option Addr} {c : Nat} {l : List Sp} (hs : Sl W P l) (hl : l.length ≤ 100000) (hw : Wide l) : Calls Tryd.prog 32 #[.slice P l.length c] W (SetNew W (fun r => Tells l r) (4 + 2 * l.length)) := by
  obtain ⟨w, hwW⟩ : ∃ w, w = W := ⟨_, rfl⟩
  rw [← hwW] at hs ⊢
  clear hwW
  have hc := rmake_any P none c 0 l [] 2 (by simp) hl (by simp) hw (fun s h => by simp at h) w hs Spans.nil
  have HC := Lib.hid hc
  clear hc hs hw
  go_enter Tryd.func32, Tryd.ntmps32
  go_wp2_with fail
  refine HC.out.mono ?_
  rintro e w' h
  obtain ⟨v, out, rfl, h2, h3, h4, h5, h6⟩ := h
  go_wp2
  go_ret
  exact SetPost.toNew ⟨v, out, rfl, h2, fun r => (h3 r).trans (by rw [kf2]; have h0 : Tells l r → Sc r := fun h => h.1; have h1 := tells_nil r; simp [h1]; exact h0), by simpa using h4, h5, h6⟩
end Go.Proofs.YtioahgklplbinaaDoor

/- The document's reader at the definition's text: an atom. -/

/- The document's reader at the definition's text: a class. -/

/- The document's reader at the definition's text: rows. -/
