
/- SetOne: the walk. -/
import Derived.Test.YtkphbjppmiefkaaDoorKnown
namespace Go.Proofs.YtkphbjppmiefkaaDoor
open Go.RowKit Go.Shelf SetM

/-- The number that a choice says. -/
def placeF (c : Int) : Int :=
  if c % 8 = 0 then 55280 + c / 8 % 2080 else if c % 8 = 1 then 1114080 + c / 8 % 32 else if c % 8 = 2 then 2032 + c / 8 % 48 else if c % 8 = 3 then 65520 + c / 8 % 48 else c / 8 % 200
theorem placeF_in (c : Int) (_h0 : 0 ≤ c) : 0 ≤ placeF c ∧ placeF c ≤ 1114111 := by
  unfold placeF
  split
  · omega
  · split
    · omega
    · split
      · omega
      · split <;> omega
set_option maxHeartbeats 1000000 in
theorem place_any (c : Int) (h0 : 0 ≤ c) (h1 : c ≤ 65535) (w : World) : Calls Tryd.prog 34 #[.int .u16 c] w fun e w' => e = .returned (.int .i64 (placeF c)) ∧ w = w' := by
  have hd0 : 0 ≤ c / 8 := by omega
  have hd1 : c / 8 ≤ 8191 := by omega
  have q1 : IntKind.u16.wrap (c.tdiv 8) = c / 8 := by
    rw [Int.tdiv_eq_ediv_of_nonneg h0]
    simp [IntKind.wrap, IntKind.bits, IntKind.signed]; omega
  have hm : c % 8 = 0 ∨ c % 8 = 1 ∨ c % 8 = 2 ∨ c % 8 = 3 ∨ (4 ≤ c % 8 ∧ c % 8 ≤ 7) := by omega
  rcases hm with hm | hm | hm | hm | ⟨hm1, hm2⟩
  · have hp : placeF c = 55280 + c / 8 % 2080 := by unfold placeF; rw [if_pos hm]
    have t0 : ((c % 8 : Int) == 0) = true := by rw [beq_iff_eq]; exact hm
    rw [hp]; clear hp hm
    generalize c / 8 = n at *
    go_enter Tryd.func34, Tryd.ntmps34
    go_wp2
    go_ret
    exact ⟨rfl, rfl⟩
  · have hp : placeF c = 1114080 + c / 8 % 32 := by unfold placeF; rw [if_neg (by omega), if_pos hm]
    have t0 : ((c % 8 : Int) == 0) = false := by rw [beq_eq_false_iff_ne]; omega
    have t1 : ((c % 8 : Int) == 1) = true := by rw [beq_iff_eq]; exact hm
    rw [hp]; clear hp hm
    generalize c / 8 = n at *
    go_enter Tryd.func34, Tryd.ntmps34
    go_wp2
    go_ret
    exact ⟨rfl, rfl⟩
  · have hp : placeF c = 2032 + c / 8 % 48 := by unfold placeF; rw [if_neg (by omega), if_neg (by omega), if_pos hm]
    have t0 : ((c % 8 : Int) == 0) = false := by rw [beq_eq_false_iff_ne]; omega
    have t1 : ((c % 8 : Int) == 1) = false := by rw [beq_eq_false_iff_ne]; omega
    have t2 : ((c % 8 : Int) == 2) = true := by rw [beq_iff_eq]; exact hm
    rw [hp]; clear hp hm
    generalize c / 8 = n at *
    go_enter Tryd.func34, Tryd.ntmps34
    go_wp2
    go_ret
    exact ⟨rfl, rfl⟩
  · have hp : placeF c = 65520 + c / 8 % 48 := by unfold placeF; rw [if_neg (by omega), if_neg (by omega), if_neg (by omega), if_pos hm]
    have t0 : ((c % 8 : Int) == 0) = false := by rw [beq_eq_false_iff_ne]; omega
    have t1 : ((c % 8 : Int) == 1) = false := by rw [beq_eq_false_iff_ne]; omega
    have t2 : ((c % 8 : Int) == 2) = false := by rw [beq_eq_false_iff_ne]; omega
    have t3 : ((c % 8 : Int) == 3) = true := by rw [beq_iff_eq]; exact hm
    rw [hp]; clear hp hm
    generalize c / 8 = n at *
    go_enter Tryd.func34, Tryd.ntmps34
    go_wp2
    go_ret
    exact ⟨rfl, rfl⟩
  · have hp : placeF c = c / 8 % 200 := by unfold placeF; rw [if_neg (by omega), if_neg (by omega), if_neg (by omega), if_neg (by omega)]
    have t0 : ((c % 8 : Int) == 0) = false := by rw [beq_eq_false_iff_ne]; omega
    have t1 : ((c % 8 : Int) == 1) = false := by rw [beq_eq_false_iff_ne]; omega
    have t2 : ((c % 8 : Int) == 2) = false := by rw [beq_eq_false_iff_ne]; omega
    have t3 : ((c % 8 : Int) == 3) = false := by rw [beq_eq_false_iff_ne]; omega
    rw [hp]; clear hp hm1 hm2
    generalize c / 8 = n at *
    go_enter Tryd.func34, Tryd.ntmps34
    go_wp2
    go_ret
    exact ⟨rfl, rfl⟩

theorem tells_one (x r : Int) : Tells [(x, x)] r ↔ Sc x ∧ r = x := by
  unfold Tells
  rw [mem_cons]
  constructor
  · rintro ⟨h1, h2 | h2⟩
    · have : r = x := by dsimp only at h2; omega
      subst this; exact ⟨h1, rfl⟩
    · exact absurd h2 (mem_nil r)
  · rintro ⟨h1, rfl⟩; exact ⟨h1, .inl ⟨Int.le_refl _, Int.le_refl _⟩⟩

end Go.Proofs.YtkphbjppmiefkaaDoor
