/- The document's ends of a class that is not made of others. -/
import Derived.Test.YtjhbjgpkpcfdmaaDoorPRSpans
import Derived.Test.YtjhbjgpkpcfdmaaDoorPMath
import Derived.Test.YtjhbjgpkpcfdmaaDoorPLoose
namespace Go.Proofs.YtjhbjgpkpcfdmaaDoor
open Go.RowKit Go.Shelf SetM PropsM

theorem ints_new (W : World) (l : List Int) (T : TypeId) : Ints (W.alloc (.cells (l.map (Value.int .i64)).toArray T)).heap.size (W.alloc (.cells (l.map (Value.int .i64)).toArray T)) (some ⟨W.heap.size, 0, none⟩) l := fun _ =>
  ⟨W.heap.size, 0, rfl, by rw [World.size_alloc]; omega, fun j hj => by
    rw [cell_of_row _ W.heap.size _ _ _ _ (heap_alloc_new W _), List.getElem?_toArray, List.getElem?_map, Nat.zero_add, List.getElem?_eq_getElem hj]; rfl⟩
def EndsOk (i : Nat) : Prop := ∀ w : World, Calls Tryd.prog 31 #[.string ⟨(nameOf i).toArray⟩] w fun e w' => ∃ P c n, e = .returned (.slice P n c) ∧ n = 2 * (runsOf i).length ∧ Ints w'.heap.size w' P (flatS (runsOf i)) ∧ Below w.heap.size w w'

set_option maxRecDepth 100000 in
set_option maxHeartbeats 2000000 in
theorem ends_0 : EndsOk 0 := by
  intro w
  rw [show nameOf 0 = [97, 110, 121] from rfl]
  go_enter Tryd.func31, Tryd.ntmps31
  go_wp2
  go_ret
  exact ⟨_, _, _, rfl, rfl, ints_new w (flatS (runsOf 0)) 3, (Below.refl _ w).alloc (Nat.le_refl _) _⟩
set_option maxRecDepth 100000 in
set_option maxHeartbeats 2000000 in
theorem ends_1 : EndsOk 1 := by
  intro w
  rw [show nameOf 1 = [97, 115, 99, 105, 105] from rfl]
  go_enter Tryd.func31, Tryd.ntmps31
  go_wp2
  go_ret
  exact ⟨_, _, _, rfl, rfl, ints_new w (flatS (runsOf 1)) 3, (Below.refl _ w).alloc (Nat.le_refl _) _⟩
set_option maxRecDepth 100000 in
set_option maxHeartbeats 2000000 in
theorem ends_2 : EndsOk 2 := by
  intro w
  rw [show nameOf 2 = [98, 108, 97, 110, 107] from rfl]
  go_enter Tryd.func31, Tryd.ntmps31
  go_wp2
  go_ret
  exact ⟨_, _, _, rfl, rfl, ints_new w (flatS (runsOf 2)) 3, (Below.refl _ w).alloc (Nat.le_refl _) _⟩
set_option maxRecDepth 100000 in
set_option maxHeartbeats 2000000 in
theorem ends_3 : EndsOk 3 := by
  intro w
  rw [show nameOf 3 = [99, 121, 114, 105, 108, 108, 105, 99] from rfl]
  go_enter Tryd.func31, Tryd.ntmps31
  go_wp2
  go_ret
  exact ⟨_, _, _, rfl, rfl, ints_new w (flatS (runsOf 3)) 3, (Below.refl _ w).alloc (Nat.le_refl _) _⟩
set_option maxRecDepth 100000 in
set_option maxHeartbeats 2000000 in
theorem ends_4 : EndsOk 4 := by
  intro w
  rw [show nameOf 4 = [100, 105, 103, 105, 116] from rfl]
  go_enter Tryd.func31, Tryd.ntmps31
  go_wp2
  go_ret
  exact ⟨_, _, _, rfl, rfl, ints_new w (flatS (runsOf 4)) 3, (Below.refl _ w).alloc (Nat.le_refl _) _⟩
set_option maxRecDepth 100000 in
set_option maxHeartbeats 2000000 in
theorem ends_5 : EndsOk 5 := by
  intro w
  rw [show nameOf 5 = [103, 114, 101, 101, 107] from rfl]
  go_enter Tryd.func31, Tryd.ntmps31
  go_wp2
  go_ret
  exact ⟨_, _, _, rfl, rfl, ints_new w (flatS (runsOf 5)) 3, (Below.refl _ w).alloc (Nat.le_refl _) _⟩
set_option maxRecDepth 100000 in
set_option maxHeartbeats 2000000 in
theorem ends_6 : EndsOk 6 := by
  intro w
  rw [show nameOf 6 = [104, 97, 110] from rfl]
  go_enter Tryd.func31, Tryd.ntmps31
  go_wp2
  go_ret
  exact ⟨_, _, _, rfl, rfl, ints_new w (flatS (runsOf 6)) 3, (Below.refl _ w).alloc (Nat.le_refl _) _⟩
set_option maxRecDepth 100000 in
set_option maxHeartbeats 2000000 in
theorem ends_7 : EndsOk 7 := by
  intro w
  rw [show nameOf 7 = [104, 101, 120] from rfl]
  go_enter Tryd.func31, Tryd.ntmps31
  go_wp2
  go_ret
  exact ⟨_, _, _, rfl, rfl, ints_new w (flatS (runsOf 7)) 3, (Below.refl _ w).alloc (Nat.le_refl _) _⟩
set_option maxRecDepth 100000 in
set_option maxHeartbeats 2000000 in
theorem ends_8 : EndsOk 8 := by
  intro w
  rw [show nameOf 8 = [108, 97, 116, 105, 110] from rfl]
  go_enter Tryd.func31, Tryd.ntmps31
  go_wp2
  go_ret
  exact ⟨_, _, _, rfl, rfl, ints_new w (flatS (runsOf 8)) 3, (Below.refl _ w).alloc (Nat.le_refl _) _⟩
set_option maxRecDepth 100000 in
set_option maxHeartbeats 2000000 in
theorem ends_10 : EndsOk 10 := by
  intro w
  rw [show nameOf 10 = [108, 111, 119, 101, 114] from rfl]
  go_enter Tryd.func31, Tryd.ntmps31
  go_wp2
  go_ret
  exact ⟨_, _, _, rfl, rfl, ints_new w (flatS (runsOf 10)) 3, (Below.refl _ w).alloc (Nat.le_refl _) _⟩
set_option maxRecDepth 100000 in
set_option maxHeartbeats 2000000 in
theorem ends_11 : EndsOk 11 := by
  intro w
  rw [show nameOf 11 = [117, 112, 112, 101, 114] from rfl]
  go_enter Tryd.func31, Tryd.ntmps31
  go_wp2
  go_ret
  exact ⟨_, _, _, rfl, rfl, ints_new w (flatS (runsOf 11)) 3, (Below.refl _ w).alloc (Nat.le_refl _) _⟩
theorem ends_c (i : Nat) (hi : i < 13) (h9 : i ≠ 9) (h12 : i ≠ 12) : EndsOk i := by
  rcases (show i = 0 ∨ i = 1 ∨ i = 2 ∨ i = 3 ∨ i = 4 ∨ i = 5 ∨ i = 6 ∨ i = 7 ∨ i = 8 ∨ i = 10 ∨ i = 11 by omega) with rfl | rfl | rfl | rfl | rfl | rfl | rfl | rfl | rfl | rfl | rfl
  · exact ends_0
  · exact ends_1
  · exact ends_2
  · exact ends_3
  · exact ends_4
  · exact ends_5
  · exact ends_6
  · exact ends_7
  · exact ends_8
  · exact ends_10
  · exact ends_11
end Go.Proofs.YtjhbjgpkpcfdmaaDoor
