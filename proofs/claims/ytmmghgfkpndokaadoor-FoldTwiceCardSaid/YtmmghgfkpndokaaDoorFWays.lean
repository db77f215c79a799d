/- A run makes its movers: ahead, and back. -/
import Derived.Test.YtmmghgfkpndokaaDoorFMove
import Derived.Deep.RegionHeld3
import Derived.WalkSmall
import Derived.IntWalk
namespace Go.Proofs.YtmmghgfkpndokaaDoor
open Go.RowKit Go.Shelf SetM

set_option maxRecDepth 100000 in
set_option maxHeartbeats 2000000 in
theorem ahead_any (u : Rn) (hu : 65 ≤ u.1 ∧ u.1 ≤ u.2.1 ∧ u.2.1 ≤ 8491 ∧ 97 ≤ u.2.2 ∧ u.2.2 ≤ 1104) (w : World) :
    Calls Tryd.prog 26 #[.agg #[.int .i64 u.1, .int .i64 u.2.1, .int .i64 u.2.2]] w fun e w' => ∃ v, e = .returned v ∧ MovV w' u.1 u.2.1 (stepR u) v ∧ Below w.heap.size w w' := by
  obtain ⟨a, b, c⟩ := u
  unfold stepR
  dsimp only at *
  obtain ⟨h1, h2, h3, h4, h5⟩ := hu
  have hb1 := (Below.refl w.heap.size w).alloc (Nat.le_refl _) (.cells #[.int .i64 a, .int .i64 b, .int .i64 c] 46)
  have hs1 : (w.alloc (.cells #[.int .i64 a, .int .i64 b, .int .i64 c] 46)).heap.size = w.heap.size + 1 := World.size_alloc _ _
  have k0 : ∀ U, Below (w.heap.size + 1) (w.alloc (.cells #[.int .i64 a, .int .i64 b, .int .i64 c] 46)) U → U.cell? ⟨w.heap.size, 0, none⟩ = some (.int .i64 a) := fun U h => by
    rw [h.cell (p := ⟨w.heap.size, 0, none⟩) (by show w.heap.size < _; omega), cell_of_row _ w.heap.size 0 _ _ _ (heap_alloc_new w _)]; rfl
  have k1 : ∀ U, Below (w.heap.size + 1) (w.alloc (.cells #[.int .i64 a, .int .i64 b, .int .i64 c] 46)) U → U.cell? ⟨w.heap.size, 1, none⟩ = some (.int .i64 b) := fun U h => by
    rw [h.cell (p := ⟨w.heap.size, 1, none⟩) (by show w.heap.size < _; omega), cell_of_row _ w.heap.size 1 _ _ _ (heap_alloc_new w _)]; rfl
  have k2 : ∀ U, Below (w.heap.size + 1) (w.alloc (.cells #[.int .i64 a, .int .i64 b, .int .i64 c] 46)) U → U.cell? ⟨w.heap.size, 1 + 1, none⟩ = some (.int .i64 c) := fun U h => by
    rw [h.cell (p := ⟨w.heap.size, 1 + 1, none⟩) (by show w.heap.size < _; omega), cell_of_row _ w.heap.size 2 _ _ _ (heap_alloc_new w _)]; rfl

  go_enter Tryd.func26, Tryd.ntmps26
  go_wp2_with fail
  have hr : Below (w.heap.size + 1) (w.alloc (.cells #[.int .i64 a, .int .i64 b, .int .i64 c] 46)) (w.alloc (.cells #[.int .i64 a, .int .i64 b, .int .i64 c] 46)) := Below.refl _ _
  generalize w.alloc (.cells #[.int .i64 a, .int .i64 b, .int .i64 c] 46) = W at *
  go_region_held3 (fun w' => w'.cell? ⟨w.heap.size, 0, none⟩ = some (.int .i64 a) ∧ w'.cell? ⟨w.heap.size, 1, none⟩ = some (.int .i64 b) ∧ w'.cell? ⟨w.heap.size, 1 + 1, none⟩ = some (.int .i64 c))
    (first | exact ⟨k0 _ hr, k1 _ hr, k2 _ hr⟩ | exact ⟨k0 _ (below_drewN hr 1), k1 _ (below_drewN hr 1), k2 _ (below_drewN hr 1)⟩)
    (first
      | (go_at_call 23; (with_reducible refine (step_any a b c ⟨by omega, by omega⟩ ⟨by omega, by omega⟩ _).mono ?_); rintro e w2 ⟨rfl, hb2⟩; have hr := (show Below (w.heap.size + 1) W _ by first | exact hr | exact below_drewN hr 1).trans (hb2.mono (by have := hr.size; (try simp only [World.size_drew]); omega)))
      | (go_at_call 33; (with_reducible refine (shift_any _ _ _ _).mono ?_); rintro e w3 ⟨v3, rfl, hm3, hb3⟩; have hr := (show Below (w.heap.size + 1) W _ by first | exact hr | exact below_drewN hr 1).trans (hb3.mono (by have := hr.size; (try simp only [World.size_drew]); omega))))
  all_goals
    go_wp2
    go_ret
    exact ⟨v3, rfl, hm3, hb1.trans (hr.mono (by omega))⟩

set_option maxRecDepth 100000 in
set_option maxHeartbeats 2000000 in
theorem back_any (u : Rn) (hu : 65 ≤ u.1 ∧ u.1 ≤ u.2.1 ∧ u.2.1 ≤ 8491 ∧ 97 ≤ u.2.2 ∧ u.2.2 ≤ 1104) (w : World) :
    Calls Tryd.prog 27 #[.agg #[.int .i64 u.1, .int .i64 u.2.1, .int .i64 u.2.2]] w fun e w' => ∃ v, e = .returned v ∧ MovV w' (u.1 + stepR u) (u.2.1 + stepR u) (-stepR u) v ∧ Below w.heap.size w w' := by
  obtain ⟨a, b, c⟩ := u
  unfold stepR
  dsimp only at *
  obtain ⟨h1, h2, h3, h4, h5⟩ := hu
  have hb1 := (Below.refl w.heap.size w).alloc (Nat.le_refl _) (.cells #[.int .i64 a, .int .i64 b, .int .i64 c] 46)
  have hs1 : (w.alloc (.cells #[.int .i64 a, .int .i64 b, .int .i64 c] 46)).heap.size = w.heap.size + 1 := World.size_alloc _ _
  have k0 : ∀ U, Below (w.heap.size + 1) (w.alloc (.cells #[.int .i64 a, .int .i64 b, .int .i64 c] 46)) U → U.cell? ⟨w.heap.size, 0, none⟩ = some (.int .i64 a) := fun U h => by
    rw [h.cell (p := ⟨w.heap.size, 0, none⟩) (by show w.heap.size < _; omega), cell_of_row _ w.heap.size 0 _ _ _ (heap_alloc_new w _)]; rfl
  have k1 : ∀ U, Below (w.heap.size + 1) (w.alloc (.cells #[.int .i64 a, .int .i64 b, .int .i64 c] 46)) U → U.cell? ⟨w.heap.size, 1, none⟩ = some (.int .i64 b) := fun U h => by
    rw [h.cell (p := ⟨w.heap.size, 1, none⟩) (by show w.heap.size < _; omega), cell_of_row _ w.heap.size 1 _ _ _ (heap_alloc_new w _)]; rfl
  have k2 : ∀ U, Below (w.heap.size + 1) (w.alloc (.cells #[.int .i64 a, .int .i64 b, .int .i64 c] 46)) U → U.cell? ⟨w.heap.size, 1 + 1, none⟩ = some (.int .i64 c) := fun U h => by
    rw [h.cell (p := ⟨w.heap.size, 1 + 1, none⟩) (by show w.heap.size < _; omega), cell_of_row _ w.heap.size 2 _ _ _ (heap_alloc_new w _)]; rfl

  have e1 : IntKind.i64.wrap (a + (c - a)) = a + (c - a) := IntWalk.i64_in _ (by omega)
  have e2 : IntKind.i64.wrap (b + (c - a)) = b + (c - a) := IntWalk.i64_in _ (by omega)
  have e3 : IntKind.i64.wrap (-(c - a)) = -(c - a) := IntWalk.i64_in _ (by omega)
  go_enter Tryd.func27, Tryd.ntmps27
  go_wp2_with fail
  have hr : Below (w.heap.size + 1) (w.alloc (.cells #[.int .i64 a, .int .i64 b, .int .i64 c] 46)) (w.alloc (.cells #[.int .i64 a, .int .i64 b, .int .i64 c] 46)) := Below.refl _ _
  generalize w.alloc (.cells #[.int .i64 a, .int .i64 b, .int .i64 c] 46) = W at *
  go_region_held3 (fun w' => w'.cell? ⟨w.heap.size, 0, none⟩ = some (.int .i64 a) ∧ w'.cell? ⟨w.heap.size, 1, none⟩ = some (.int .i64 b) ∧ w'.cell? ⟨w.heap.size, 1 + 1, none⟩ = some (.int .i64 c))
    (first | exact ⟨k0 _ hr, k1 _ hr, k2 _ hr⟩ | exact ⟨k0 _ (below_drewN hr 1), k1 _ (below_drewN hr 1), k2 _ (below_drewN hr 1)⟩)
    (first
      | (go_at_call 23; (with_reducible refine (step_any a b c ⟨by omega, by omega⟩ ⟨by omega, by omega⟩ _).mono ?_); rintro e w2 ⟨rfl, hb2⟩; have hr := (show Below (w.heap.size + 1) W _ by first | exact hr | exact below_drewN hr 1).trans (hb2.mono (by have := hr.size; (try simp only [World.size_drew]); omega)))
      | (go_at_call 33; (with_reducible refine (shift_any _ _ _ _).mono ?_); rintro e w3 ⟨v3, rfl, hm3, hb3⟩; have hr := (show Below (w.heap.size + 1) W _ by first | exact hr | exact below_drewN hr 1).trans (hb3.mono (by have := hr.size; (try simp only [World.size_drew]); omega))))
  all_goals
    go_wp2
    go_ret
    exact ⟨v3, rfl, hm3, hb1.trans (hr.mono (by omega))⟩
end Go.Proofs.YtmmghgfkpndokaaDoor
