/- The document's own Fold. -/
import Derived.Test.YtmmghgfkpndokaaDoorFRuns
namespace Go.Proofs.YtmmghgfkpndokaaDoor
open Go.RowKit Go.Shelf SetM

set_option maxRecDepth 100000 in
set_option maxHeartbeats 1000000 in
theorem rfold_0 (r : Int) (hh : r ≤ 64) (w : World) : Calls Tryd.prog 15 #[.int .i64 r] w fun e w' => e = .returned (.int .i64 (foldF r)) ∧ w = w' := by
  have hf : foldF r = r := by have := foldF_spec r; omega
  rw [hf]
  clear hf
  have e181 : ((r : Int) == 181) = false := by rw [beq_eq_false_iff_ne]; omega
  have e962 : ((r : Int) == 962) = false := by rw [beq_eq_false_iff_ne]; omega
  have e7838 : ((r : Int) == 7838) = false := by rw [beq_eq_false_iff_ne]; omega
  have e8486 : ((r : Int) == 8486) = false := by rw [beq_eq_false_iff_ne]; omega
  have e8490 : ((r : Int) == 8490) = false := by rw [beq_eq_false_iff_ne]; omega
  have e8491 : ((r : Int) == 8491) = false := by rw [beq_eq_false_iff_ne]; omega
  have e215 : ((r : Int) == 215) = false := by rw [beq_eq_false_iff_ne]; omega
  have e930 : ((r : Int) == 930) = false := by rw [beq_eq_false_iff_ne]; omega
  go_enter Tryd.func15, Tryd.ntmps15
  go_wp2
  go_ret
  exact ⟨rfl, rfl⟩
set_option maxRecDepth 100000 in
set_option maxHeartbeats 1000000 in
theorem rfold_1 (r : Int) (hl : 65 ≤ r) (hh : r ≤ 90) (w : World) : Calls Tryd.prog 15 #[.int .i64 r] w fun e w' => e = .returned (.int .i64 (foldF r)) ∧ w = w' := by
  have hf : foldF r = r + 32 := by have := foldF_spec r; omega
  rw [hf]
  clear hf
  have e181 : ((r : Int) == 181) = false := by rw [beq_eq_false_iff_ne]; omega
  have e962 : ((r : Int) == 962) = false := by rw [beq_eq_false_iff_ne]; omega
  have e7838 : ((r : Int) == 7838) = false := by rw [beq_eq_false_iff_ne]; omega
  have e8486 : ((r : Int) == 8486) = false := by rw [beq_eq_false_iff_ne]; omega
  have e8490 : ((r : Int) == 8490) = false := by rw [beq_eq_false_iff_ne]; omega
  have e8491 : ((r : Int) == 8491) = false := by rw [beq_eq_false_iff_ne]; omega
  have e215 : ((r : Int) == 215) = false := by rw [beq_eq_false_iff_ne]; omega
  have e930 : ((r : Int) == 930) = false := by rw [beq_eq_false_iff_ne]; omega
  go_enter Tryd.func15, Tryd.ntmps15
  go_wp2
  go_ret
  exact ⟨rfl, rfl⟩
set_option maxRecDepth 100000 in
set_option maxHeartbeats 1000000 in
theorem rfold_2 (r : Int) (hl : 91 ≤ r) (hh : r ≤ 180) (w : World) : Calls Tryd.prog 15 #[.int .i64 r] w fun e w' => e = .returned (.int .i64 (foldF r)) ∧ w = w' := by
  have hf : foldF r = r := by have := foldF_spec r; omega
  rw [hf]
  clear hf
  have e181 : ((r : Int) == 181) = false := by rw [beq_eq_false_iff_ne]; omega
  have e962 : ((r : Int) == 962) = false := by rw [beq_eq_false_iff_ne]; omega
  have e7838 : ((r : Int) == 7838) = false := by rw [beq_eq_false_iff_ne]; omega
  have e8486 : ((r : Int) == 8486) = false := by rw [beq_eq_false_iff_ne]; omega
  have e8490 : ((r : Int) == 8490) = false := by rw [beq_eq_false_iff_ne]; omega
  have e8491 : ((r : Int) == 8491) = false := by rw [beq_eq_false_iff_ne]; omega
  have e215 : ((r : Int) == 215) = false := by rw [beq_eq_false_iff_ne]; omega
  have e930 : ((r : Int) == 930) = false := by rw [beq_eq_false_iff_ne]; omega
  go_enter Tryd.func15, Tryd.ntmps15
  go_wp2
  go_ret
  exact ⟨rfl, rfl⟩
set_option maxRecDepth 100000 in
set_option maxHeartbeats 1000000 in
theorem rfold_3 (w : World) : Calls Tryd.prog 15 #[.int .i64 181] w fun e w' => e = .returned (.int .i64 (foldF 181)) ∧ w = w' := by
  have hf : foldF 181 = 956 := by decide
  rw [hf]
  go_enter Tryd.func15, Tryd.ntmps15
  go_wp2
  go_ret
  exact ⟨rfl, rfl⟩
set_option maxRecDepth 100000 in
set_option maxHeartbeats 1000000 in
theorem rfold_4 (r : Int) (hl : 182 ≤ r) (hh : r ≤ 191) (w : World) : Calls Tryd.prog 15 #[.int .i64 r] w fun e w' => e = .returned (.int .i64 (foldF r)) ∧ w = w' := by
  have hf : foldF r = r := by have := foldF_spec r; omega
  rw [hf]
  clear hf
  have e181 : ((r : Int) == 181) = false := by rw [beq_eq_false_iff_ne]; omega
  have e962 : ((r : Int) == 962) = false := by rw [beq_eq_false_iff_ne]; omega
  have e7838 : ((r : Int) == 7838) = false := by rw [beq_eq_false_iff_ne]; omega
  have e8486 : ((r : Int) == 8486) = false := by rw [beq_eq_false_iff_ne]; omega
  have e8490 : ((r : Int) == 8490) = false := by rw [beq_eq_false_iff_ne]; omega
  have e8491 : ((r : Int) == 8491) = false := by rw [beq_eq_false_iff_ne]; omega
  have e215 : ((r : Int) == 215) = false := by rw [beq_eq_false_iff_ne]; omega
  have e930 : ((r : Int) == 930) = false := by rw [beq_eq_false_iff_ne]; omega
  go_enter Tryd.func15, Tryd.ntmps15
  go_wp2
  go_ret
  exact ⟨rfl, rfl⟩
set_option maxRecDepth 100000 in
set_option maxHeartbeats 1000000 in
theorem rfold_5 (r : Int) (hl : 192 ≤ r) (hh : r ≤ 214) (w : World) : Calls Tryd.prog 15 #[.int .i64 r] w fun e w' => e = .returned (.int .i64 (foldF r)) ∧ w = w' := by
  have hf : foldF r = r + 32 := by have := foldF_spec r; omega
  rw [hf]
  clear hf
  have e181 : ((r : Int) == 181) = false := by rw [beq_eq_false_iff_ne]; omega
  have e962 : ((r : Int) == 962) = false := by rw [beq_eq_false_iff_ne]; omega
  have e7838 : ((r : Int) == 7838) = false := by rw [beq_eq_false_iff_ne]; omega
  have e8486 : ((r : Int) == 8486) = false := by rw [beq_eq_false_iff_ne]; omega
  have e8490 : ((r : Int) == 8490) = false := by rw [beq_eq_false_iff_ne]; omega
  have e8491 : ((r : Int) == 8491) = false := by rw [beq_eq_false_iff_ne]; omega
  have e215 : ((r : Int) == 215) = false := by rw [beq_eq_false_iff_ne]; omega
  have e930 : ((r : Int) == 930) = false := by rw [beq_eq_false_iff_ne]; omega
  go_enter Tryd.func15, Tryd.ntmps15
  go_wp2
  go_ret
  exact ⟨rfl, rfl⟩
set_option maxRecDepth 100000 in
set_option maxHeartbeats 1000000 in
theorem rfold_6 (w : World) : Calls Tryd.prog 15 #[.int .i64 215] w fun e w' => e = .returned (.int .i64 (foldF 215)) ∧ w = w' := by
  have hf : foldF 215 = 215 := by decide
  rw [hf]
  go_enter Tryd.func15, Tryd.ntmps15
  go_wp2
  go_ret
  exact ⟨rfl, rfl⟩
set_option maxRecDepth 100000 in
set_option maxHeartbeats 1000000 in
theorem rfold_7 (r : Int) (hl : 216 ≤ r) (hh : r ≤ 222) (w : World) : Calls Tryd.prog 15 #[.int .i64 r] w fun e w' => e = .returned (.int .i64 (foldF r)) ∧ w = w' := by
  have hf : foldF r = r + 32 := by have := foldF_spec r; omega
  rw [hf]
  clear hf
  have e181 : ((r : Int) == 181) = false := by rw [beq_eq_false_iff_ne]; omega
  have e962 : ((r : Int) == 962) = false := by rw [beq_eq_false_iff_ne]; omega
  have e7838 : ((r : Int) == 7838) = false := by rw [beq_eq_false_iff_ne]; omega
  have e8486 : ((r : Int) == 8486) = false := by rw [beq_eq_false_iff_ne]; omega
  have e8490 : ((r : Int) == 8490) = false := by rw [beq_eq_false_iff_ne]; omega
  have e8491 : ((r : Int) == 8491) = false := by rw [beq_eq_false_iff_ne]; omega
  have e215 : ((r : Int) == 215) = false := by rw [beq_eq_false_iff_ne]; omega
  have e930 : ((r : Int) == 930) = false := by rw [beq_eq_false_iff_ne]; omega
  go_enter Tryd.func15, Tryd.ntmps15
  go_wp2
  go_ret
  exact ⟨rfl, rfl⟩
set_option maxRecDepth 100000 in
set_option maxHeartbeats 1000000 in
theorem rfold_8 (r : Int) (hl : 223 ≤ r) (hh : r ≤ 912) (w : World) : Calls Tryd.prog 15 #[.int .i64 r] w fun e w' => e = .returned (.int .i64 (foldF r)) ∧ w = w' := by
  have hf : foldF r = r := by have := foldF_spec r; omega
  rw [hf]
  clear hf
  have e181 : ((r : Int) == 181) = false := by rw [beq_eq_false_iff_ne]; omega
  have e962 : ((r : Int) == 962) = false := by rw [beq_eq_false_iff_ne]; omega
  have e7838 : ((r : Int) == 7838) = false := by rw [beq_eq_false_iff_ne]; omega
  have e8486 : ((r : Int) == 8486) = false := by rw [beq_eq_false_iff_ne]; omega
  have e8490 : ((r : Int) == 8490) = false := by rw [beq_eq_false_iff_ne]; omega
  have e8491 : ((r : Int) == 8491) = false := by rw [beq_eq_false_iff_ne]; omega
  have e215 : ((r : Int) == 215) = false := by rw [beq_eq_false_iff_ne]; omega
  have e930 : ((r : Int) == 930) = false := by rw [beq_eq_false_iff_ne]; omega
  go_enter Tryd.func15, Tryd.ntmps15
  go_wp2
  go_ret
  exact ⟨rfl, rfl⟩
set_option maxRecDepth 100000 in
set_option maxHeartbeats 1000000 in
theorem rfold_9 (r : Int) (hl : 913 ≤ r) (hh : r ≤ 929) (w : World) : Calls Tryd.prog 15 #[.int .i64 r] w fun e w' => e = .returned (.int .i64 (foldF r)) ∧ w = w' := by
  have hf : foldF r = r + 32 := by have := foldF_spec r; omega
  rw [hf]
  clear hf
  have e181 : ((r : Int) == 181) = false := by rw [beq_eq_false_iff_ne]; omega
  have e962 : ((r : Int) == 962) = false := by rw [beq_eq_false_iff_ne]; omega
  have e7838 : ((r : Int) == 7838) = false := by rw [beq_eq_false_iff_ne]; omega
  have e8486 : ((r : Int) == 8486) = false := by rw [beq_eq_false_iff_ne]; omega
  have e8490 : ((r : Int) == 8490) = false := by rw [beq_eq_false_iff_ne]; omega
  have e8491 : ((r : Int) == 8491) = false := by rw [beq_eq_false_iff_ne]; omega
  have e215 : ((r : Int) == 215) = false := by rw [beq_eq_false_iff_ne]; omega
  have e930 : ((r : Int) == 930) = false := by rw [beq_eq_false_iff_ne]; omega
  go_enter Tryd.func15, Tryd.ntmps15
  go_wp2
  go_ret
  exact ⟨rfl, rfl⟩
set_option maxRecDepth 100000 in
set_option maxHeartbeats 1000000 in
theorem rfold_10 (w : World) : Calls Tryd.prog 15 #[.int .i64 930] w fun e w' => e = .returned (.int .i64 (foldF 930)) ∧ w = w' := by
  have hf : foldF 930 = 930 := by decide
  rw [hf]
  go_enter Tryd.func15, Tryd.ntmps15
  go_wp2
  go_ret
  exact ⟨rfl, rfl⟩
set_option maxRecDepth 100000 in
set_option maxHeartbeats 1000000 in
theorem rfold_11 (r : Int) (hl : 931 ≤ r) (hh : r ≤ 937) (w : World) : Calls Tryd.prog 15 #[.int .i64 r] w fun e w' => e = .returned (.int .i64 (foldF r)) ∧ w = w' := by
  have hf : foldF r = r + 32 := by have := foldF_spec r; omega
  rw [hf]
  clear hf
  have e181 : ((r : Int) == 181) = false := by rw [beq_eq_false_iff_ne]; omega
  have e962 : ((r : Int) == 962) = false := by rw [beq_eq_false_iff_ne]; omega
  have e7838 : ((r : Int) == 7838) = false := by rw [beq_eq_false_iff_ne]; omega
  have e8486 : ((r : Int) == 8486) = false := by rw [beq_eq_false_iff_ne]; omega
  have e8490 : ((r : Int) == 8490) = false := by rw [beq_eq_false_iff_ne]; omega
  have e8491 : ((r : Int) == 8491) = false := by rw [beq_eq_false_iff_ne]; omega
  have e215 : ((r : Int) == 215) = false := by rw [beq_eq_false_iff_ne]; omega
  have e930 : ((r : Int) == 930) = false := by rw [beq_eq_false_iff_ne]; omega
  go_enter Tryd.func15, Tryd.ntmps15
  go_wp2
  go_ret
  exact ⟨rfl, rfl⟩
set_option maxRecDepth 100000 in
set_option maxHeartbeats 1000000 in
theorem rfold_12 (r : Int) (hl : 938 ≤ r) (hh : r ≤ 961) (w : World) : Calls Tryd.prog 15 #[.int .i64 r] w fun e w' => e = .returned (.int .i64 (foldF r)) ∧ w = w' := by
  have hf : foldF r = r := by have := foldF_spec r; omega
  rw [hf]
  clear hf
  have e181 : ((r : Int) == 181) = false := by rw [beq_eq_false_iff_ne]; omega
  have e962 : ((r : Int) == 962) = false := by rw [beq_eq_false_iff_ne]; omega
  have e7838 : ((r : Int) == 7838) = false := by rw [beq_eq_false_iff_ne]; omega
  have e8486 : ((r : Int) == 8486) = false := by rw [beq_eq_false_iff_ne]; omega
  have e8490 : ((r : Int) == 8490) = false := by rw [beq_eq_false_iff_ne]; omega
  have e8491 : ((r : Int) == 8491) = false := by rw [beq_eq_false_iff_ne]; omega
  have e215 : ((r : Int) == 215) = false := by rw [beq_eq_false_iff_ne]; omega
  have e930 : ((r : Int) == 930) = false := by rw [beq_eq_false_iff_ne]; omega
  go_enter Tryd.func15, Tryd.ntmps15
  go_wp2
  go_ret
  exact ⟨rfl, rfl⟩
set_option maxRecDepth 100000 in
set_option maxHeartbeats 1000000 in
theorem rfold_13 (w : World) : Calls Tryd.prog 15 #[.int .i64 962] w fun e w' => e = .returned (.int .i64 (foldF 962)) ∧ w = w' := by
  have hf : foldF 962 = 963 := by decide
  rw [hf]
  go_enter Tryd.func15, Tryd.ntmps15
  go_wp2
  go_ret
  exact ⟨rfl, rfl⟩
set_option maxRecDepth 100000 in
set_option maxHeartbeats 1000000 in
theorem rfold_14 (r : Int) (hl : 963 ≤ r) (hh : r ≤ 1023) (w : World) : Calls Tryd.prog 15 #[.int .i64 r] w fun e w' => e = .returned (.int .i64 (foldF r)) ∧ w = w' := by
  have hf : foldF r = r := by have := foldF_spec r; omega
  rw [hf]
  clear hf
  have e181 : ((r : Int) == 181) = false := by rw [beq_eq_false_iff_ne]; omega
  have e962 : ((r : Int) == 962) = false := by rw [beq_eq_false_iff_ne]; omega
  have e7838 : ((r : Int) == 7838) = false := by rw [beq_eq_false_iff_ne]; omega
  have e8486 : ((r : Int) == 8486) = false := by rw [beq_eq_false_iff_ne]; omega
  have e8490 : ((r : Int) == 8490) = false := by rw [beq_eq_false_iff_ne]; omega
  have e8491 : ((r : Int) == 8491) = false := by rw [beq_eq_false_iff_ne]; omega
  have e215 : ((r : Int) == 215) = false := by rw [beq_eq_false_iff_ne]; omega
  have e930 : ((r : Int) == 930) = false := by rw [beq_eq_false_iff_ne]; omega
  go_enter Tryd.func15, Tryd.ntmps15
  go_wp2
  go_ret
  exact ⟨rfl, rfl⟩
set_option maxRecDepth 100000 in
set_option maxHeartbeats 1000000 in
theorem rfold_15 (r : Int) (hl : 1024 ≤ r) (hh : r ≤ 1039) (w : World) : Calls Tryd.prog 15 #[.int .i64 r] w fun e w' => e = .returned (.int .i64 (foldF r)) ∧ w = w' := by
  have hf : foldF r = r + 80 := by have := foldF_spec r; omega
  rw [hf]
  clear hf
  have e181 : ((r : Int) == 181) = false := by rw [beq_eq_false_iff_ne]; omega
  have e962 : ((r : Int) == 962) = false := by rw [beq_eq_false_iff_ne]; omega
  have e7838 : ((r : Int) == 7838) = false := by rw [beq_eq_false_iff_ne]; omega
  have e8486 : ((r : Int) == 8486) = false := by rw [beq_eq_false_iff_ne]; omega
  have e8490 : ((r : Int) == 8490) = false := by rw [beq_eq_false_iff_ne]; omega
  have e8491 : ((r : Int) == 8491) = false := by rw [beq_eq_false_iff_ne]; omega
  have e215 : ((r : Int) == 215) = false := by rw [beq_eq_false_iff_ne]; omega
  have e930 : ((r : Int) == 930) = false := by rw [beq_eq_false_iff_ne]; omega
  go_enter Tryd.func15, Tryd.ntmps15
  go_wp2
  go_ret
  exact ⟨rfl, rfl⟩
set_option maxRecDepth 100000 in
set_option maxHeartbeats 1000000 in
theorem rfold_16 (r : Int) (hl : 1040 ≤ r) (hh : r ≤ 1071) (w : World) : Calls Tryd.prog 15 #[.int .i64 r] w fun e w' => e = .returned (.int .i64 (foldF r)) ∧ w = w' := by
  have hf : foldF r = r + 32 := by have := foldF_spec r; omega
  rw [hf]
  clear hf
  have e181 : ((r : Int) == 181) = false := by rw [beq_eq_false_iff_ne]; omega
  have e962 : ((r : Int) == 962) = false := by rw [beq_eq_false_iff_ne]; omega
  have e7838 : ((r : Int) == 7838) = false := by rw [beq_eq_false_iff_ne]; omega
  have e8486 : ((r : Int) == 8486) = false := by rw [beq_eq_false_iff_ne]; omega
  have e8490 : ((r : Int) == 8490) = false := by rw [beq_eq_false_iff_ne]; omega
  have e8491 : ((r : Int) == 8491) = false := by rw [beq_eq_false_iff_ne]; omega
  have e215 : ((r : Int) == 215) = false := by rw [beq_eq_false_iff_ne]; omega
  have e930 : ((r : Int) == 930) = false := by rw [beq_eq_false_iff_ne]; omega
  go_enter Tryd.func15, Tryd.ntmps15
  go_wp2
  go_ret
  exact ⟨rfl, rfl⟩
set_option maxRecDepth 100000 in
set_option maxHeartbeats 1000000 in
theorem rfold_17 (r : Int) (hl : 1072 ≤ r) (hh : r ≤ 7837) (w : World) : Calls Tryd.prog 15 #[.int .i64 r] w fun e w' => e = .returned (.int .i64 (foldF r)) ∧ w = w' := by
  have hf : foldF r = r := by have := foldF_spec r; omega
  rw [hf]
  clear hf
  have e181 : ((r : Int) == 181) = false := by rw [beq_eq_false_iff_ne]; omega
  have e962 : ((r : Int) == 962) = false := by rw [beq_eq_false_iff_ne]; omega
  have e7838 : ((r : Int) == 7838) = false := by rw [beq_eq_false_iff_ne]; omega
  have e8486 : ((r : Int) == 8486) = false := by rw [beq_eq_false_iff_ne]; omega
  have e8490 : ((r : Int) == 8490) = false := by rw [beq_eq_false_iff_ne]; omega
  have e8491 : ((r : Int) == 8491) = false := by rw [beq_eq_false_iff_ne]; omega
  have e215 : ((r : Int) == 215) = false := by rw [beq_eq_false_iff_ne]; omega
  have e930 : ((r : Int) == 930) = false := by rw [beq_eq_false_iff_ne]; omega
  go_enter Tryd.func15, Tryd.ntmps15
  go_wp2
  go_ret
  exact ⟨rfl, rfl⟩
set_option maxRecDepth 100000 in
set_option maxHeartbeats 1000000 in
theorem rfold_18 (w : World) : Calls Tryd.prog 15 #[.int .i64 7838] w fun e w' => e = .returned (.int .i64 (foldF 7838)) ∧ w = w' := by
  have hf : foldF 7838 = 223 := by decide
  rw [hf]
  go_enter Tryd.func15, Tryd.ntmps15
  go_wp2
  go_ret
  exact ⟨rfl, rfl⟩
set_option maxRecDepth 100000 in
set_option maxHeartbeats 1000000 in
theorem rfold_19 (r : Int) (hl : 7839 ≤ r) (hh : r ≤ 8485) (w : World) : Calls Tryd.prog 15 #[.int .i64 r] w fun e w' => e = .returned (.int .i64 (foldF r)) ∧ w = w' := by
  have hf : foldF r = r := by have := foldF_spec r; omega
  rw [hf]
  clear hf
  have e181 : ((r : Int) == 181) = false := by rw [beq_eq_false_iff_ne]; omega
  have e962 : ((r : Int) == 962) = false := by rw [beq_eq_false_iff_ne]; omega
  have e7838 : ((r : Int) == 7838) = false := by rw [beq_eq_false_iff_ne]; omega
  have e8486 : ((r : Int) == 8486) = false := by rw [beq_eq_false_iff_ne]; omega
  have e8490 : ((r : Int) == 8490) = false := by rw [beq_eq_false_iff_ne]; omega
  have e8491 : ((r : Int) == 8491) = false := by rw [beq_eq_false_iff_ne]; omega
  have e215 : ((r : Int) == 215) = false := by rw [beq_eq_false_iff_ne]; omega
  have e930 : ((r : Int) == 930) = false := by rw [beq_eq_false_iff_ne]; omega
  go_enter Tryd.func15, Tryd.ntmps15
  go_wp2
  go_ret
  exact ⟨rfl, rfl⟩
set_option maxRecDepth 100000 in
set_option maxHeartbeats 1000000 in
theorem rfold_20 (w : World) : Calls Tryd.prog 15 #[.int .i64 8486] w fun e w' => e = .returned (.int .i64 (foldF 8486)) ∧ w = w' := by
  have hf : foldF 8486 = 969 := by decide
  rw [hf]
  go_enter Tryd.func15, Tryd.ntmps15
  go_wp2
  go_ret
  exact ⟨rfl, rfl⟩
set_option maxRecDepth 100000 in
set_option maxHeartbeats 1000000 in
theorem rfold_21 (r : Int) (hl : 8487 ≤ r) (hh : r ≤ 8489) (w : World) : Calls Tryd.prog 15 #[.int .i64 r] w fun e w' => e = .returned (.int .i64 (foldF r)) ∧ w = w' := by
  have hf : foldF r = r := by have := foldF_spec r; omega
  rw [hf]
  clear hf
  have e181 : ((r : Int) == 181) = false := by rw [beq_eq_false_iff_ne]; omega
  have e962 : ((r : Int) == 962) = false := by rw [beq_eq_false_iff_ne]; omega
  have e7838 : ((r : Int) == 7838) = false := by rw [beq_eq_false_iff_ne]; omega
  have e8486 : ((r : Int) == 8486) = false := by rw [beq_eq_false_iff_ne]; omega
  have e8490 : ((r : Int) == 8490) = false := by rw [beq_eq_false_iff_ne]; omega
  have e8491 : ((r : Int) == 8491) = false := by rw [beq_eq_false_iff_ne]; omega
  have e215 : ((r : Int) == 215) = false := by rw [beq_eq_false_iff_ne]; omega
  have e930 : ((r : Int) == 930) = false := by rw [beq_eq_false_iff_ne]; omega
  go_enter Tryd.func15, Tryd.ntmps15
  go_wp2
  go_ret
  exact ⟨rfl, rfl⟩
set_option maxRecDepth 100000 in
set_option maxHeartbeats 1000000 in
theorem rfold_22 (w : World) : Calls Tryd.prog 15 #[.int .i64 8490] w fun e w' => e = .returned (.int .i64 (foldF 8490)) ∧ w = w' := by
  have hf : foldF 8490 = 107 := by decide
  rw [hf]
  go_enter Tryd.func15, Tryd.ntmps15
  go_wp2
  go_ret
  exact ⟨rfl, rfl⟩
set_option maxRecDepth 100000 in
set_option maxHeartbeats 1000000 in
theorem rfold_23 (w : World) : Calls Tryd.prog 15 #[.int .i64 8491] w fun e w' => e = .returned (.int .i64 (foldF 8491)) ∧ w = w' := by
  have hf : foldF 8491 = 229 := by decide
  rw [hf]
  go_enter Tryd.func15, Tryd.ntmps15
  go_wp2
  go_ret
  exact ⟨rfl, rfl⟩
set_option maxRecDepth 100000 in
set_option maxHeartbeats 1000000 in
theorem rfold_24 (r : Int) (hl : 8492 ≤ r) (w : World) : Calls Tryd.prog 15 #[.int .i64 r] w fun e w' => e = .returned (.int .i64 (foldF r)) ∧ w = w' := by
  have hf : foldF r = r := by have := foldF_spec r; omega
  rw [hf]
  clear hf
  have e181 : ((r : Int) == 181) = false := by rw [beq_eq_false_iff_ne]; omega
  have e962 : ((r : Int) == 962) = false := by rw [beq_eq_false_iff_ne]; omega
  have e7838 : ((r : Int) == 7838) = false := by rw [beq_eq_false_iff_ne]; omega
  have e8486 : ((r : Int) == 8486) = false := by rw [beq_eq_false_iff_ne]; omega
  have e8490 : ((r : Int) == 8490) = false := by rw [beq_eq_false_iff_ne]; omega
  have e8491 : ((r : Int) == 8491) = false := by rw [beq_eq_false_iff_ne]; omega
  have e215 : ((r : Int) == 215) = false := by rw [beq_eq_false_iff_ne]; omega
  have e930 : ((r : Int) == 930) = false := by rw [beq_eq_false_iff_ne]; omega
  go_enter Tryd.func15, Tryd.ntmps15
  go_wp2
  go_ret
  exact ⟨rfl, rfl⟩
theorem rfold_c (r : Int) (w : World) : Calls Tryd.prog 15 #[.int .i64 r] w fun e w' => e = .returned (.int .i64 (foldF r)) ∧ w = w' := by
  rcases (show r ≤ 64 ∨ (65 ≤ r ∧ r ≤ 90) ∨ (91 ≤ r ∧ r ≤ 180) ∨ r = 181 ∨ (182 ≤ r ∧ r ≤ 191) ∨ (192 ≤ r ∧ r ≤ 214) ∨ r = 215 ∨ (216 ≤ r ∧ r ≤ 222) ∨ (223 ≤ r ∧ r ≤ 912) ∨ (913 ≤ r ∧ r ≤ 929) ∨ r = 930 ∨ (931 ≤ r ∧ r ≤ 937) ∨ (938 ≤ r ∧ r ≤ 961) ∨ r = 962 ∨ (963 ≤ r ∧ r ≤ 1023) ∨ (1024 ≤ r ∧ r ≤ 1039) ∨ (1040 ≤ r ∧ r ≤ 1071) ∨ (1072 ≤ r ∧ r ≤ 7837) ∨ r = 7838 ∨ (7839 ≤ r ∧ r ≤ 8485) ∨ r = 8486 ∨ (8487 ≤ r ∧ r ≤ 8489) ∨ r = 8490 ∨ r = 8491 ∨ 8492 ≤ r by omega) with h | ⟨h, h'⟩ | ⟨h, h'⟩ | rfl | ⟨h, h'⟩ | ⟨h, h'⟩ | rfl | ⟨h, h'⟩ | ⟨h, h'⟩ | ⟨h, h'⟩ | rfl | ⟨h, h'⟩ | ⟨h, h'⟩ | rfl | ⟨h, h'⟩ | ⟨h, h'⟩ | ⟨h, h'⟩ | ⟨h, h'⟩ | rfl | ⟨h, h'⟩ | rfl | ⟨h, h'⟩ | rfl | rfl | h
  · exact rfold_0 r h w
  · exact rfold_1 r h h' w
  · exact rfold_2 r h h' w
  · exact rfold_3 w
  · exact rfold_4 r h h' w
  · exact rfold_5 r h h' w
  · exact rfold_6 w
  · exact rfold_7 r h h' w
  · exact rfold_8 r h h' w
  · exact rfold_9 r h h' w
  · exact rfold_10 w
  · exact rfold_11 r h h' w
  · exact rfold_12 r h h' w
  · exact rfold_13 w
  · exact rfold_14 r h h' w
  · exact rfold_15 r h h' w
  · exact rfold_16 r h h' w
  · exact rfold_17 r h h' w
  · exact rfold_18 w
  · exact rfold_19 r h h' w
  · exact rfold_20 w
  · exact rfold_21 r h h' w
  · exact rfold_22 w
  · exact rfold_23 w
  · exact rfold_24 r h w
end Go.Proofs.YtmmghgfkpndokaaDoor
