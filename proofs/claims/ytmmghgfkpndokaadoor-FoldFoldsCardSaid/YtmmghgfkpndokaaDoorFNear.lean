/- The law's near: a number, as a choice says. -/
import Derived.Test.YtmmghgfkpndokaaDoorFRuns
namespace Go.Proofs.YtmmghgfkpndokaaDoor
open Go.RowKit Go.Shelf SetM

def nearF (c : Int) : Int :=
  if c % 8 = 0 then 64 + c / 8 % 192 else if c % 8 = 1 then 896 + c / 8 % 96 else if c % 8 = 2 then 1016 + c / 8 % 112 else if c % 8 = 3 then 8480 + c / 8 % 16 else if c % 8 = 4 then 7832 + c / 8 % 8 else c / 8
theorem nearF_in (c : Int) (h0 : 0 ≤ c) (h1 : c ≤ 65535) : 0 ≤ nearF c ∧ nearF c ≤ 8495 := by
  unfold nearF
  repeat' split
  all_goals omega
set_option maxHeartbeats 1000000 in
theorem near_any (c : Int) (h0 : 0 ≤ c) (h1 : c ≤ 65535) (w : World) : Calls Tryd.prog 11 #[.int .u16 c] w fun e w' => e = .returned (.int .i64 (nearF c)) ∧ w = w' := by
  have hd0 : 0 ≤ c / 8 := by omega
  have hd1 : c / 8 ≤ 8191 := by omega
  have q1 : IntKind.u16.wrap (c.tdiv 8) = c / 8 := by
    rw [Int.tdiv_eq_ediv_of_nonneg h0]
    simp [IntKind.wrap, IntKind.bits, IntKind.signed]; omega
  have hm : c % 8 = 0 ∨ c % 8 = 1 ∨ c % 8 = 2 ∨ c % 8 = 3 ∨ c % 8 = 4 ∨ (5 ≤ c % 8 ∧ c % 8 ≤ 7) := by omega
  rcases hm with hm | hm | hm | hm | hm | ⟨hm1, hm2⟩
  · have hp : nearF c = 64 + c / 8 % 192 := by unfold nearF; rw [if_pos hm]
    have t0 : ((c % 8 : Int) == 0) = true := by rw [beq_iff_eq]; exact hm
    rw [hp]; clear hp hm
    generalize c / 8 = n at *
    go_enter Tryd.func11, Tryd.ntmps11
    go_wp2
    go_ret
    exact ⟨rfl, rfl⟩
  · have hp : nearF c = 896 + c / 8 % 96 := by unfold nearF; rw [if_neg (by omega), if_pos hm]
    have t0 : ((c % 8 : Int) == 0) = false := by rw [beq_eq_false_iff_ne]; omega
    have t1 : ((c % 8 : Int) == 1) = true := by rw [beq_iff_eq]; exact hm
    rw [hp]; clear hp hm
    generalize c / 8 = n at *
    go_enter Tryd.func11, Tryd.ntmps11
    go_wp2
    go_ret
    exact ⟨rfl, rfl⟩
  · have hp : nearF c = 1016 + c / 8 % 112 := by unfold nearF; rw [if_neg (by omega), if_neg (by omega), if_pos hm]
    have t0 : ((c % 8 : Int) == 0) = false := by rw [beq_eq_false_iff_ne]; omega
    have t1 : ((c % 8 : Int) == 1) = false := by rw [beq_eq_false_iff_ne]; omega
    have t2 : ((c % 8 : Int) == 2) = true := by rw [beq_iff_eq]; exact hm
    rw [hp]; clear hp hm
    generalize c / 8 = n at *
    go_enter Tryd.func11, Tryd.ntmps11
    go_wp2
    go_ret
    exact ⟨rfl, rfl⟩
  · have hp : nearF c = 8480 + c / 8 % 16 := by unfold nearF; rw [if_neg (by omega), if_neg (by omega), if_neg (by omega), if_pos hm]
    have t0 : ((c % 8 : Int) == 0) = false := by rw [beq_eq_false_iff_ne]; omega
    have t1 : ((c % 8 : Int) == 1) = false := by rw [beq_eq_false_iff_ne]; omega
    have t2 : ((c % 8 : Int) == 2) = false := by rw [beq_eq_false_iff_ne]; omega
    have t3 : ((c % 8 : Int) == 3) = true := by rw [beq_iff_eq]; exact hm
    rw [hp]; clear hp hm
    generalize c / 8 = n at *
    go_enter Tryd.func11, Tryd.ntmps11
    go_wp2
    go_ret
    exact ⟨rfl, rfl⟩
  · have hp : nearF c = 7832 + c / 8 % 8 := by unfold nearF; rw [if_neg (by omega), if_neg (by omega), if_neg (by omega), if_neg (by omega), if_pos hm]
    have t0 : ((c % 8 : Int) == 0) = false := by rw [beq_eq_false_iff_ne]; omega
    have t1 : ((c % 8 : Int) == 1) = false := by rw [beq_eq_false_iff_ne]; omega
    have t2 : ((c % 8 : Int) == 2) = false := by rw [beq_eq_false_iff_ne]; omega
    have t3 : ((c % 8 : Int) == 3) = false := by rw [beq_eq_false_iff_ne]; omega
    have t4 : ((c % 8 : Int) == 4) = true := by rw [beq_iff_eq]; exact hm
    rw [hp]; clear hp hm
    generalize c / 8 = n at *
    go_enter Tryd.func11, Tryd.ntmps11
    go_wp2
    go_ret
    exact ⟨rfl, rfl⟩
  · have hp : nearF c = c / 8 := by unfold nearF; rw [if_neg (by omega), if_neg (by omega), if_neg (by omega), if_neg (by omega), if_neg (by omega)]
    have t0 : ((c % 8 : Int) == 0) = false := by rw [beq_eq_false_iff_ne]; omega
    have t1 : ((c % 8 : Int) == 1) = false := by rw [beq_eq_false_iff_ne]; omega
    have t2 : ((c % 8 : Int) == 2) = false := by rw [beq_eq_false_iff_ne]; omega
    have t3 : ((c % 8 : Int) == 3) = false := by rw [beq_eq_false_iff_ne]; omega
    have t4 : ((c % 8 : Int) == 4) = false := by rw [beq_eq_false_iff_ne]; omega
    rw [hp]; clear hp hm1 hm2
    generalize c / 8 = n at *
    go_enter Tryd.func11, Tryd.ntmps11
    go_wp2
    go_ret
    exact ⟨rfl, rfl⟩
end Go.Proofs.YtmmghgfkpndokaaDoor
