/- The document's own cut, at every part. -/
import Derived.Test.YtgaalkcociifmaaDoorSRefCutB
import Derived.Test.YtgaalkcociifmaaDoorSRowM
namespace Go.Proofs.YtgaalkcociifmaaDoor
open Go.RowKit Go.Shelf SeqM
open U.UtfM (enc)
theorem lvs_pos {n : Nat} {a b : Int} (hab : a ≤ b) : 0 < (leaves n a b).length := by
  obtain ⟨s, hs, _⟩ := (leaves_mem (n := n) hab a).2 ⟨Int.le_refl _, hab⟩
  exact List.length_pos_of_mem hs
theorem lvs_few {n : Nat} {a b : Int} (hg : SeqM.Good (n, a, b)) : (leaves n a b).length ≤ 1200000 := by
  have h := leavesP_len [(n, a, b)] (fun q hq => by obtain rfl := List.mem_singleton.1 hq; exact hg)
  simp [leavesP] at h
  omega
theorem rcut_c (n : Nat) (a b : Int) (hg : SeqM.Good (n, a, b)) : ∀ w, Calls Tryd.prog 42 #[.int .i64 a, .int .i64 b, .int .i64 n] w (CutP w (leaves n a b)) := by
  refine cut_ind' (n := n) (P := fun a b => SeqM.Good (n, a, b) → ∀ w, Calls Tryd.prog 42 #[.int .i64 a, .int .i64 b, .int .i64 n] w (CutP w (leaves n a b))) hg.in.2.1 (fun a b _ hc hg => rcut_step n a b hg (fun x h => by rw [hc] at h; cases h)) (fun a b x h1 h2 hc ih1 ih2 hg => rcut_step n a b hg (fun y hy w => ?_)) hg
  rw [hc] at hy; cases hy
  have g1 := hg.cut (Int.le_refl a) (show a ≤ x - 1 by omega) (by omega)
  have g2 := hg.cut (show a ≤ x by omega) h2 (Int.le_refl b)
  rw [leaves_some (by omega) hc]
  exact rboth_c n a x b (by have := hg.in; omega) _ _ (lvs_few g1) (lvs_few g2) (lvs_pos h2) (ih1 g1) (ih2 g2) w
end Go.Proofs.YtgaalkcociifmaaDoor
