/- PropsMade's walk: letters are of four scripts, words are letters, digits and one sign; hexadecimal digits are of ascii. -/
import Derived.Test.YtjhbjgpkpcfdmaaDoorPKnown
namespace Go.Proofs.YtjhbjgpkpcfdmaaDoor
open Go.RowKit Go.Shelf SetM PropsM

theorem made_letter (r : Int) : decide (Tells (gathOf 9) r) = (decide (Tells (gathOf 8) r) || decide (Tells (gathOf 5) r) || decide (Tells (gathOf 3) r) || decide (Tells (gathOf 6) r)) := by
  rw [Bool.eq_iff_iff]
  simp only [Bool.or_eq_true, decide_eq_true_iff]
  rw [show gathOf 9 = gathOf 8 ++ gathOf 5 ++ gathOf 3 ++ gathOf 6 from rfl]
  unfold Tells
  rw [mem_append, mem_append, mem_append]
  by_cases h : Sc r <;> simp [h]
theorem made_word (r : Int) : decide (Tells (gathOf 12) r) = (decide (Tells (gathOf 9) r) || decide (Tells (gathOf 4) r) || (r == 95)) := by
  rw [Bool.eq_iff_iff]
  simp only [Bool.or_eq_true, decide_eq_true_iff, beq_iff_eq]
  rw [show gathOf 12 = [(95, 95)] ++ gathOf 9 ++ gathOf 4 from rfl]
  unfold Tells
  rw [mem_append, mem_append]
  have h5 : Mem [(95, 95)] r ↔ r = 95 := by simp only [mem_cons, mem_nil, or_false]; omega
  have h6 : r = 95 → Sc r := by intro h; unfold Sc; omega
  rw [h5]
  by_cases h : Sc r
  · simp only [h, true_and]
    constructor
    · rintro ((h | h) | h) <;> simp [h]
    · rintro ((h | h) | h) <;> simp [h]
  · have h7 : r ≠ 95 := fun e => h (h6 e)
    simp [h, h7]
theorem made_hex (r : Int) : (!decide (Tells (gathOf 7) r) || decide (Tells (gathOf 1) r)) = true := by
  by_cases h : Tells (gathOf 7) r
  · have h2 : Tells (gathOf 1) r := by
      refine ⟨h.1, ?_⟩
      have h1 := h.2
      rw [show gathOf 7 = [(48, 57), (65, 70), (97, 102)] from rfl] at h1
      rw [show gathOf 1 = [(0, 127)] from rfl]
      simp only [mem_cons, mem_nil, or_false] at h1 ⊢
      rcases h1 with h1 | h1 | h1 <;> omega
    simp [h2]
  · simp [h]
theorem made_upper (r : Int) : (!decide (Tells (gathOf 11) r) || decide (Tells (gathOf 9) r)) = true := by
  by_cases h : Tells (gathOf 11) r
  · have h2 : Tells (gathOf 9) r := by
      refine ⟨h.1, ?_⟩
      have h1 := h.2
      rw [show gathOf 11 = [(65, 90), (192, 214), (216, 222), (913, 929), (931, 937), (1024, 1071)] from rfl] at h1
      rw [show gathOf 9 = [(65, 90), (97, 122), (170, 170), (186, 186), (192, 214), (216, 246), (248, 591), (880, 883), (885, 887), (890, 895), (900, 900), (902, 902), (904, 906), (908, 908), (910, 929), (931, 993), (1008, 1023), (1024, 1279), (13312, 19903), (19968, 40959), (131072, 173791)] from rfl]
      simp only [mem_cons, mem_nil, or_false] at h1 ⊢
      rcases h1 with h1 | h1 | h1 | h1 | h1 | h1 <;> omega
    simp [h2]
  · simp [h]
theorem made_lower (r : Int) : (!decide (Tells (gathOf 10) r) || decide (Tells (gathOf 9) r)) = true := by
  by_cases h : Tells (gathOf 10) r
  · have h2 : Tells (gathOf 9) r := by
      refine ⟨h.1, ?_⟩
      have h1 := h.2
      rw [show gathOf 10 = [(97, 122), (223, 246), (248, 255), (945, 969), (1072, 1119)] from rfl] at h1
      rw [show gathOf 9 = [(65, 90), (97, 122), (170, 170), (186, 186), (192, 214), (216, 246), (248, 591), (880, 883), (885, 887), (890, 895), (900, 900), (902, 902), (904, 906), (908, 908), (910, 929), (931, 993), (1008, 1023), (1024, 1279), (13312, 19903), (19968, 40959), (131072, 173791)] from rfl]
      simp only [mem_cons, mem_nil, or_false] at h1 ⊢
      rcases h1 with h1 | h1 | h1 | h1 | h1 <;> omega
    simp [h2]
  · simp [h]

set_option maxRecDepth 100000 in
set_option maxHeartbeats 8000000 in
theorem propsMade_any (r : Int) (w : World) (hC : Ctx w w) :
    Calls Tryd.prog 8 #[.int .i64 r] w fun e w' => e = .returned (.bool true) ∧ Below w.heap.size w w' := by
  have H8 : Hid (∀ W, Ctx w W → Calls Tryd.prog 10 #[.string ⟨#[108, 97, 116, 105, 110]⟩, .int .i64 r] W fun e W' => e = .returned (.bool (decide (Tells (gathOf 8) r))) ∧ Below W.heap.size W W') := Lib.hid (fun W h => inclass_c ⟨#[108, 97, 116, 105, 110]⟩ (by decide) 8 (by decide) r h)
  have H5 : Hid (∀ W, Ctx w W → Calls Tryd.prog 10 #[.string ⟨#[103, 114, 101, 101, 107]⟩, .int .i64 r] W fun e W' => e = .returned (.bool (decide (Tells (gathOf 5) r))) ∧ Below W.heap.size W W') := Lib.hid (fun W h => inclass_c ⟨#[103, 114, 101, 101, 107]⟩ (by decide) 5 (by decide) r h)
  have H3 : Hid (∀ W, Ctx w W → Calls Tryd.prog 10 #[.string ⟨#[99, 121, 114, 105, 108, 108, 105, 99]⟩, .int .i64 r] W fun e W' => e = .returned (.bool (decide (Tells (gathOf 3) r))) ∧ Below W.heap.size W W') := Lib.hid (fun W h => inclass_c ⟨#[99, 121, 114, 105, 108, 108, 105, 99]⟩ (by decide) 3 (by decide) r h)
  have H6 : Hid (∀ W, Ctx w W → Calls Tryd.prog 10 #[.string ⟨#[104, 97, 110]⟩, .int .i64 r] W fun e W' => e = .returned (.bool (decide (Tells (gathOf 6) r))) ∧ Below W.heap.size W W') := Lib.hid (fun W h => inclass_c ⟨#[104, 97, 110]⟩ (by decide) 6 (by decide) r h)
  have H9 : Hid (∀ W, Ctx w W → Calls Tryd.prog 10 #[.string ⟨#[108, 101, 116, 116, 101, 114]⟩, .int .i64 r] W fun e W' => e = .returned (.bool (decide (Tells (gathOf 9) r))) ∧ Below W.heap.size W W') := Lib.hid (fun W h => inclass_c ⟨#[108, 101, 116, 116, 101, 114]⟩ (by decide) 9 (by decide) r h)
  have H12 : Hid (∀ W, Ctx w W → Calls Tryd.prog 10 #[.string ⟨#[119, 111, 114, 100]⟩, .int .i64 r] W fun e W' => e = .returned (.bool (decide (Tells (gathOf 12) r))) ∧ Below W.heap.size W W') := Lib.hid (fun W h => inclass_c ⟨#[119, 111, 114, 100]⟩ (by decide) 12 (by decide) r h)
  have H4 : Hid (∀ W, Ctx w W → Calls Tryd.prog 10 #[.string ⟨#[100, 105, 103, 105, 116]⟩, .int .i64 r] W fun e W' => e = .returned (.bool (decide (Tells (gathOf 4) r))) ∧ Below W.heap.size W W') := Lib.hid (fun W h => inclass_c ⟨#[100, 105, 103, 105, 116]⟩ (by decide) 4 (by decide) r h)
  have H7 : Hid (∀ W, Ctx w W → Calls Tryd.prog 10 #[.string ⟨#[104, 101, 120]⟩, .int .i64 r] W fun e W' => e = .returned (.bool (decide (Tells (gathOf 7) r))) ∧ Below W.heap.size W W') := Lib.hid (fun W h => inclass_c ⟨#[104, 101, 120]⟩ (by decide) 7 (by decide) r h)
  have H1 : Hid (∀ W, Ctx w W → Calls Tryd.prog 10 #[.string ⟨#[97, 115, 99, 105, 105]⟩, .int .i64 r] W fun e W' => e = .returned (.bool (decide (Tells (gathOf 1) r))) ∧ Below W.heap.size W W') := Lib.hid (fun W h => inclass_c ⟨#[97, 115, 99, 105, 105]⟩ (by decide) 1 (by decide) r h)
  have H11 : Hid (∀ W, Ctx w W → Calls Tryd.prog 10 #[.string ⟨#[117, 112, 112, 101, 114]⟩, .int .i64 r] W fun e W' => e = .returned (.bool (decide (Tells (gathOf 11) r))) ∧ Below W.heap.size W W') := Lib.hid (fun W h => inclass_c ⟨#[117, 112, 112, 101, 114]⟩ (by decide) 11 (by decide) r h)
  have H10 : Hid (∀ W, Ctx w W → Calls Tryd.prog 10 #[.string ⟨#[108, 111, 119, 101, 114]⟩, .int .i64 r] W fun e W' => e = .returned (.bool (decide (Tells (gathOf 10) r))) ∧ Below W.heap.size W W') := Lib.hid (fun W h => inclass_c ⟨#[108, 111, 119, 101, 114]⟩ (by decide) 10 (by decide) r h)
  have m1 := made_letter r
  have m2 := made_word r
  have m3 := made_hex r
  have m4 := made_upper r
  have m5 := made_lower r
  generalize decide (Tells (gathOf 8) r) = u8 at *
  generalize decide (Tells (gathOf 5) r) = u5 at *
  generalize decide (Tells (gathOf 3) r) = u3 at *
  generalize decide (Tells (gathOf 6) r) = u6 at *
  generalize decide (Tells (gathOf 9) r) = u9 at *
  generalize decide (Tells (gathOf 12) r) = u12 at *
  generalize decide (Tells (gathOf 4) r) = u4 at *
  generalize decide (Tells (gathOf 7) r) = u7 at *
  generalize decide (Tells (gathOf 1) r) = u1 at *
  generalize decide (Tells (gathOf 11) r) = u11 at *
  generalize decide (Tells (gathOf 10) r) = u10 at *
  generalize hz : (r == 95) = z at *
  have q1 : (u8 = true ∧ u9 = true) ∨ (u8 = false ∧ u5 = true ∧ u9 = true) ∨ (u8 = false ∧ u5 = false ∧ u3 = true ∧ u9 = true) ∨ (u8 = false ∧ u5 = false ∧ u3 = false ∧ u6 = true ∧ u9 = true) ∨ (u8 = false ∧ u5 = false ∧ u3 = false ∧ u6 = false ∧ u9 = false) := by
    cases u8 <;> cases u5 <;> cases u3 <;> cases u6 <;> simp_all
  have q2 : u9 = true ∧ u12 = true ∨ (u9 = false ∧ u4 = true ∧ u12 = true) ∨ (u9 = false ∧ u4 = false ∧ z = true ∧ u12 = true) ∨ (u9 = false ∧ u4 = false ∧ z = false ∧ u12 = false) := by
    clear q1 m1
    cases u9 <;> cases u4 <;> cases z <;> simp_all
  have q3 : u7 = false ∨ (u7 = true ∧ u1 = true) := by cases u7 <;> simp_all
  have q4 : u11 = false ∨ (u11 = true ∧ u9 = true) := by cases u11 <;> simp_all
  have q5 : u10 = false ∨ (u10 = true ∧ u9 = true) := by cases u10 <;> simp_all
  clear m1 m2 m3 m4 m5
  rcases q1 with ⟨rfl, rfl⟩ | ⟨rfl, rfl, rfl⟩ | ⟨rfl, rfl, rfl, rfl⟩ | ⟨rfl, rfl, rfl, rfl, rfl⟩ | ⟨rfl, rfl, rfl, rfl, rfl⟩
  all_goals simp only [reduceCtorEq, false_and, and_false, or_false, false_or, true_and, and_true] at q2 q4 q5
  all_goals rcases q3 with rfl | ⟨rfl, rfl⟩
  · subst q2
    rcases q4 with rfl | rfl <;> rcases q5 with rfl | rfl
    all_goals
      go_enter Tryd.func8, Tryd.ntmps8
      go_wp2_with (first | (go_at_call 9; refine (known_c hC).mono ?_; rintro e wx ⟨rfl, hb⟩; replace hC := hC.step hb; clear hb) | (go_at_call 10; (with_reducible refine (H8.out _ hC).mono ?_); rintro e wx ⟨rfl, hb⟩; replace hC := hC.step hb; clear hb) | (go_at_call 10; (with_reducible refine (H5.out _ hC).mono ?_); rintro e wx ⟨rfl, hb⟩; replace hC := hC.step hb; clear hb) | (go_at_call 10; (with_reducible refine (H3.out _ hC).mono ?_); rintro e wx ⟨rfl, hb⟩; replace hC := hC.step hb; clear hb) | (go_at_call 10; (with_reducible refine (H6.out _ hC).mono ?_); rintro e wx ⟨rfl, hb⟩; replace hC := hC.step hb; clear hb) | (go_at_call 10; (with_reducible refine (H9.out _ hC).mono ?_); rintro e wx ⟨rfl, hb⟩; replace hC := hC.step hb; clear hb) | (go_at_call 10; (with_reducible refine (H12.out _ hC).mono ?_); rintro e wx ⟨rfl, hb⟩; replace hC := hC.step hb; clear hb) | (go_at_call 10; (with_reducible refine (H4.out _ hC).mono ?_); rintro e wx ⟨rfl, hb⟩; replace hC := hC.step hb; clear hb) | (go_at_call 10; (with_reducible refine (H7.out _ hC).mono ?_); rintro e wx ⟨rfl, hb⟩; replace hC := hC.step hb; clear hb) | (go_at_call 10; (with_reducible refine (H1.out _ hC).mono ?_); rintro e wx ⟨rfl, hb⟩; replace hC := hC.step hb; clear hb) | (go_at_call 10; (with_reducible refine (H11.out _ hC).mono ?_); rintro e wx ⟨rfl, hb⟩; replace hC := hC.step hb; clear hb) | (go_at_call 10; (with_reducible refine (H10.out _ hC).mono ?_); rintro e wx ⟨rfl, hb⟩; replace hC := hC.step hb; clear hb) | fail)
      go_ret
      exact ⟨rfl, hC.below⟩
  · subst q2
    rcases q4 with rfl | rfl <;> rcases q5 with rfl | rfl
    all_goals
      go_enter Tryd.func8, Tryd.ntmps8
      go_wp2_with (first | (go_at_call 9; refine (known_c hC).mono ?_; rintro e wx ⟨rfl, hb⟩; replace hC := hC.step hb; clear hb) | (go_at_call 10; (with_reducible refine (H8.out _ hC).mono ?_); rintro e wx ⟨rfl, hb⟩; replace hC := hC.step hb; clear hb) | (go_at_call 10; (with_reducible refine (H5.out _ hC).mono ?_); rintro e wx ⟨rfl, hb⟩; replace hC := hC.step hb; clear hb) | (go_at_call 10; (with_reducible refine (H3.out _ hC).mono ?_); rintro e wx ⟨rfl, hb⟩; replace hC := hC.step hb; clear hb) | (go_at_call 10; (with_reducible refine (H6.out _ hC).mono ?_); rintro e wx ⟨rfl, hb⟩; replace hC := hC.step hb; clear hb) | (go_at_call 10; (with_reducible refine (H9.out _ hC).mono ?_); rintro e wx ⟨rfl, hb⟩; replace hC := hC.step hb; clear hb) | (go_at_call 10; (with_reducible refine (H12.out _ hC).mono ?_); rintro e wx ⟨rfl, hb⟩; replace hC := hC.step hb; clear hb) | (go_at_call 10; (with_reducible refine (H4.out _ hC).mono ?_); rintro e wx ⟨rfl, hb⟩; replace hC := hC.step hb; clear hb) | (go_at_call 10; (with_reducible refine (H7.out _ hC).mono ?_); rintro e wx ⟨rfl, hb⟩; replace hC := hC.step hb; clear hb) | (go_at_call 10; (with_reducible refine (H1.out _ hC).mono ?_); rintro e wx ⟨rfl, hb⟩; replace hC := hC.step hb; clear hb) | (go_at_call 10; (with_reducible refine (H11.out _ hC).mono ?_); rintro e wx ⟨rfl, hb⟩; replace hC := hC.step hb; clear hb) | (go_at_call 10; (with_reducible refine (H10.out _ hC).mono ?_); rintro e wx ⟨rfl, hb⟩; replace hC := hC.step hb; clear hb) | fail)
      go_ret
      exact ⟨rfl, hC.below⟩
  · subst q2
    rcases q4 with rfl | rfl <;> rcases q5 with rfl | rfl
    all_goals
      go_enter Tryd.func8, Tryd.ntmps8
      go_wp2_with (first | (go_at_call 9; refine (known_c hC).mono ?_; rintro e wx ⟨rfl, hb⟩; replace hC := hC.step hb; clear hb) | (go_at_call 10; (with_reducible refine (H8.out _ hC).mono ?_); rintro e wx ⟨rfl, hb⟩; replace hC := hC.step hb; clear hb) | (go_at_call 10; (with_reducible refine (H5.out _ hC).mono ?_); rintro e wx ⟨rfl, hb⟩; replace hC := hC.step hb; clear hb) | (go_at_call 10; (with_reducible refine (H3.out _ hC).mono ?_); rintro e wx ⟨rfl, hb⟩; replace hC := hC.step hb; clear hb) | (go_at_call 10; (with_reducible refine (H6.out _ hC).mono ?_); rintro e wx ⟨rfl, hb⟩; replace hC := hC.step hb; clear hb) | (go_at_call 10; (with_reducible refine (H9.out _ hC).mono ?_); rintro e wx ⟨rfl, hb⟩; replace hC := hC.step hb; clear hb) | (go_at_call 10; (with_reducible refine (H12.out _ hC).mono ?_); rintro e wx ⟨rfl, hb⟩; replace hC := hC.step hb; clear hb) | (go_at_call 10; (with_reducible refine (H4.out _ hC).mono ?_); rintro e wx ⟨rfl, hb⟩; replace hC := hC.step hb; clear hb) | (go_at_call 10; (with_reducible refine (H7.out _ hC).mono ?_); rintro e wx ⟨rfl, hb⟩; replace hC := hC.step hb; clear hb) | (go_at_call 10; (with_reducible refine (H1.out _ hC).mono ?_); rintro e wx ⟨rfl, hb⟩; replace hC := hC.step hb; clear hb) | (go_at_call 10; (with_reducible refine (H11.out _ hC).mono ?_); rintro e wx ⟨rfl, hb⟩; replace hC := hC.step hb; clear hb) | (go_at_call 10; (with_reducible refine (H10.out _ hC).mono ?_); rintro e wx ⟨rfl, hb⟩; replace hC := hC.step hb; clear hb) | fail)
      go_ret
      exact ⟨rfl, hC.below⟩
  · subst q2
    rcases q4 with rfl | rfl <;> rcases q5 with rfl | rfl
    all_goals
      go_enter Tryd.func8, Tryd.ntmps8
      go_wp2_with (first | (go_at_call 9; refine (known_c hC).mono ?_; rintro e wx ⟨rfl, hb⟩; replace hC := hC.step hb; clear hb) | (go_at_call 10; (with_reducible refine (H8.out _ hC).mono ?_); rintro e wx ⟨rfl, hb⟩; replace hC := hC.step hb; clear hb) | (go_at_call 10; (with_reducible refine (H5.out _ hC).mono ?_); rintro e wx ⟨rfl, hb⟩; replace hC := hC.step hb; clear hb) | (go_at_call 10; (with_reducible refine (H3.out _ hC).mono ?_); rintro e wx ⟨rfl, hb⟩; replace hC := hC.step hb; clear hb) | (go_at_call 10; (with_reducible refine (H6.out _ hC).mono ?_); rintro e wx ⟨rfl, hb⟩; replace hC := hC.step hb; clear hb) | (go_at_call 10; (with_reducible refine (H9.out _ hC).mono ?_); rintro e wx ⟨rfl, hb⟩; replace hC := hC.step hb; clear hb) | (go_at_call 10; (with_reducible refine (H12.out _ hC).mono ?_); rintro e wx ⟨rfl, hb⟩; replace hC := hC.step hb; clear hb) | (go_at_call 10; (with_reducible refine (H4.out _ hC).mono ?_); rintro e wx ⟨rfl, hb⟩; replace hC := hC.step hb; clear hb) | (go_at_call 10; (with_reducible refine (H7.out _ hC).mono ?_); rintro e wx ⟨rfl, hb⟩; replace hC := hC.step hb; clear hb) | (go_at_call 10; (with_reducible refine (H1.out _ hC).mono ?_); rintro e wx ⟨rfl, hb⟩; replace hC := hC.step hb; clear hb) | (go_at_call 10; (with_reducible refine (H11.out _ hC).mono ?_); rintro e wx ⟨rfl, hb⟩; replace hC := hC.step hb; clear hb) | (go_at_call 10; (with_reducible refine (H10.out _ hC).mono ?_); rintro e wx ⟨rfl, hb⟩; replace hC := hC.step hb; clear hb) | fail)
      go_ret
      exact ⟨rfl, hC.below⟩
  · subst q2
    rcases q4 with rfl | rfl <;> rcases q5 with rfl | rfl
    all_goals
      go_enter Tryd.func8, Tryd.ntmps8
      go_wp2_with (first | (go_at_call 9; refine (known_c hC).mono ?_; rintro e wx ⟨rfl, hb⟩; replace hC := hC.step hb; clear hb) | (go_at_call 10; (with_reducible refine (H8.out _ hC).mono ?_); rintro e wx ⟨rfl, hb⟩; replace hC := hC.step hb; clear hb) | (go_at_call 10; (with_reducible refine (H5.out _ hC).mono ?_); rintro e wx ⟨rfl, hb⟩; replace hC := hC.step hb; clear hb) | (go_at_call 10; (with_reducible refine (H3.out _ hC).mono ?_); rintro e wx ⟨rfl, hb⟩; replace hC := hC.step hb; clear hb) | (go_at_call 10; (with_reducible refine (H6.out _ hC).mono ?_); rintro e wx ⟨rfl, hb⟩; replace hC := hC.step hb; clear hb) | (go_at_call 10; (with_reducible refine (H9.out _ hC).mono ?_); rintro e wx ⟨rfl, hb⟩; replace hC := hC.step hb; clear hb) | (go_at_call 10; (with_reducible refine (H12.out _ hC).mono ?_); rintro e wx ⟨rfl, hb⟩; replace hC := hC.step hb; clear hb) | (go_at_call 10; (with_reducible refine (H4.out _ hC).mono ?_); rintro e wx ⟨rfl, hb⟩; replace hC := hC.step hb; clear hb) | (go_at_call 10; (with_reducible refine (H7.out _ hC).mono ?_); rintro e wx ⟨rfl, hb⟩; replace hC := hC.step hb; clear hb) | (go_at_call 10; (with_reducible refine (H1.out _ hC).mono ?_); rintro e wx ⟨rfl, hb⟩; replace hC := hC.step hb; clear hb) | (go_at_call 10; (with_reducible refine (H11.out _ hC).mono ?_); rintro e wx ⟨rfl, hb⟩; replace hC := hC.step hb; clear hb) | (go_at_call 10; (with_reducible refine (H10.out _ hC).mono ?_); rintro e wx ⟨rfl, hb⟩; replace hC := hC.step hb; clear hb) | fail)
      go_ret
      exact ⟨rfl, hC.below⟩
  · subst q2
    rcases q4 with rfl | rfl <;> rcases q5 with rfl | rfl
    all_goals
      go_enter Tryd.func8, Tryd.ntmps8
      go_wp2_with (first | (go_at_call 9; refine (known_c hC).mono ?_; rintro e wx ⟨rfl, hb⟩; replace hC := hC.step hb; clear hb) | (go_at_call 10; (with_reducible refine (H8.out _ hC).mono ?_); rintro e wx ⟨rfl, hb⟩; replace hC := hC.step hb; clear hb) | (go_at_call 10; (with_reducible refine (H5.out _ hC).mono ?_); rintro e wx ⟨rfl, hb⟩; replace hC := hC.step hb; clear hb) | (go_at_call 10; (with_reducible refine (H3.out _ hC).mono ?_); rintro e wx ⟨rfl, hb⟩; replace hC := hC.step hb; clear hb) | (go_at_call 10; (with_reducible refine (H6.out _ hC).mono ?_); rintro e wx ⟨rfl, hb⟩; replace hC := hC.step hb; clear hb) | (go_at_call 10; (with_reducible refine (H9.out _ hC).mono ?_); rintro e wx ⟨rfl, hb⟩; replace hC := hC.step hb; clear hb) | (go_at_call 10; (with_reducible refine (H12.out _ hC).mono ?_); rintro e wx ⟨rfl, hb⟩; replace hC := hC.step hb; clear hb) | (go_at_call 10; (with_reducible refine (H4.out _ hC).mono ?_); rintro e wx ⟨rfl, hb⟩; replace hC := hC.step hb; clear hb) | (go_at_call 10; (with_reducible refine (H7.out _ hC).mono ?_); rintro e wx ⟨rfl, hb⟩; replace hC := hC.step hb; clear hb) | (go_at_call 10; (with_reducible refine (H1.out _ hC).mono ?_); rintro e wx ⟨rfl, hb⟩; replace hC := hC.step hb; clear hb) | (go_at_call 10; (with_reducible refine (H11.out _ hC).mono ?_); rintro e wx ⟨rfl, hb⟩; replace hC := hC.step hb; clear hb) | (go_at_call 10; (with_reducible refine (H10.out _ hC).mono ?_); rintro e wx ⟨rfl, hb⟩; replace hC := hC.step hb; clear hb) | fail)
      go_ret
      exact ⟨rfl, hC.below⟩
  · subst q2
    rcases q4 with rfl | rfl <;> rcases q5 with rfl | rfl
    all_goals
      go_enter Tryd.func8, Tryd.ntmps8
      go_wp2_with (first | (go_at_call 9; refine (known_c hC).mono ?_; rintro e wx ⟨rfl, hb⟩; replace hC := hC.step hb; clear hb) | (go_at_call 10; (with_reducible refine (H8.out _ hC).mono ?_); rintro e wx ⟨rfl, hb⟩; replace hC := hC.step hb; clear hb) | (go_at_call 10; (with_reducible refine (H5.out _ hC).mono ?_); rintro e wx ⟨rfl, hb⟩; replace hC := hC.step hb; clear hb) | (go_at_call 10; (with_reducible refine (H3.out _ hC).mono ?_); rintro e wx ⟨rfl, hb⟩; replace hC := hC.step hb; clear hb) | (go_at_call 10; (with_reducible refine (H6.out _ hC).mono ?_); rintro e wx ⟨rfl, hb⟩; replace hC := hC.step hb; clear hb) | (go_at_call 10; (with_reducible refine (H9.out _ hC).mono ?_); rintro e wx ⟨rfl, hb⟩; replace hC := hC.step hb; clear hb) | (go_at_call 10; (with_reducible refine (H12.out _ hC).mono ?_); rintro e wx ⟨rfl, hb⟩; replace hC := hC.step hb; clear hb) | (go_at_call 10; (with_reducible refine (H4.out _ hC).mono ?_); rintro e wx ⟨rfl, hb⟩; replace hC := hC.step hb; clear hb) | (go_at_call 10; (with_reducible refine (H7.out _ hC).mono ?_); rintro e wx ⟨rfl, hb⟩; replace hC := hC.step hb; clear hb) | (go_at_call 10; (with_reducible refine (H1.out _ hC).mono ?_); rintro e wx ⟨rfl, hb⟩; replace hC := hC.step hb; clear hb) | (go_at_call 10; (with_reducible refine (H11.out _ hC).mono ?_); rintro e wx ⟨rfl, hb⟩; replace hC := hC.step hb; clear hb) | (go_at_call 10; (with_reducible refine (H10.out _ hC).mono ?_); rintro e wx ⟨rfl, hb⟩; replace hC := hC.step hb; clear hb) | fail)
      go_ret
      exact ⟨rfl, hC.below⟩
  · subst q2
    rcases q4 with rfl | rfl <;> rcases q5 with rfl | rfl
    all_goals
      go_enter Tryd.func8, Tryd.ntmps8
      go_wp2_with (first | (go_at_call 9; refine (known_c hC).mono ?_; rintro e wx ⟨rfl, hb⟩; replace hC := hC.step hb; clear hb) | (go_at_call 10; (with_reducible refine (H8.out _ hC).mono ?_); rintro e wx ⟨rfl, hb⟩; replace hC := hC.step hb; clear hb) | (go_at_call 10; (with_reducible refine (H5.out _ hC).mono ?_); rintro e wx ⟨rfl, hb⟩; replace hC := hC.step hb; clear hb) | (go_at_call 10; (with_reducible refine (H3.out _ hC).mono ?_); rintro e wx ⟨rfl, hb⟩; replace hC := hC.step hb; clear hb) | (go_at_call 10; (with_reducible refine (H6.out _ hC).mono ?_); rintro e wx ⟨rfl, hb⟩; replace hC := hC.step hb; clear hb) | (go_at_call 10; (with_reducible refine (H9.out _ hC).mono ?_); rintro e wx ⟨rfl, hb⟩; replace hC := hC.step hb; clear hb) | (go_at_call 10; (with_reducible refine (H12.out _ hC).mono ?_); rintro e wx ⟨rfl, hb⟩; replace hC := hC.step hb; clear hb) | (go_at_call 10; (with_reducible refine (H4.out _ hC).mono ?_); rintro e wx ⟨rfl, hb⟩; replace hC := hC.step hb; clear hb) | (go_at_call 10; (with_reducible refine (H7.out _ hC).mono ?_); rintro e wx ⟨rfl, hb⟩; replace hC := hC.step hb; clear hb) | (go_at_call 10; (with_reducible refine (H1.out _ hC).mono ?_); rintro e wx ⟨rfl, hb⟩; replace hC := hC.step hb; clear hb) | (go_at_call 10; (with_reducible refine (H11.out _ hC).mono ?_); rintro e wx ⟨rfl, hb⟩; replace hC := hC.step hb; clear hb) | (go_at_call 10; (with_reducible refine (H10.out _ hC).mono ?_); rintro e wx ⟨rfl, hb⟩; replace hC := hC.step hb; clear hb) | fail)
      go_ret
      exact ⟨rfl, hC.below⟩
  · subst q4; subst q5
    rcases q2 with ⟨rfl, rfl⟩ | ⟨rfl, rfl, rfl⟩ | ⟨rfl, rfl, rfl⟩
    all_goals
      go_enter Tryd.func8, Tryd.ntmps8
      go_wp2_with (first | (go_at_call 9; refine (known_c hC).mono ?_; rintro e wx ⟨rfl, hb⟩; replace hC := hC.step hb; clear hb) | (go_at_call 10; (with_reducible refine (H8.out _ hC).mono ?_); rintro e wx ⟨rfl, hb⟩; replace hC := hC.step hb; clear hb) | (go_at_call 10; (with_reducible refine (H5.out _ hC).mono ?_); rintro e wx ⟨rfl, hb⟩; replace hC := hC.step hb; clear hb) | (go_at_call 10; (with_reducible refine (H3.out _ hC).mono ?_); rintro e wx ⟨rfl, hb⟩; replace hC := hC.step hb; clear hb) | (go_at_call 10; (with_reducible refine (H6.out _ hC).mono ?_); rintro e wx ⟨rfl, hb⟩; replace hC := hC.step hb; clear hb) | (go_at_call 10; (with_reducible refine (H9.out _ hC).mono ?_); rintro e wx ⟨rfl, hb⟩; replace hC := hC.step hb; clear hb) | (go_at_call 10; (with_reducible refine (H12.out _ hC).mono ?_); rintro e wx ⟨rfl, hb⟩; replace hC := hC.step hb; clear hb) | (go_at_call 10; (with_reducible refine (H4.out _ hC).mono ?_); rintro e wx ⟨rfl, hb⟩; replace hC := hC.step hb; clear hb) | (go_at_call 10; (with_reducible refine (H7.out _ hC).mono ?_); rintro e wx ⟨rfl, hb⟩; replace hC := hC.step hb; clear hb) | (go_at_call 10; (with_reducible refine (H1.out _ hC).mono ?_); rintro e wx ⟨rfl, hb⟩; replace hC := hC.step hb; clear hb) | (go_at_call 10; (with_reducible refine (H11.out _ hC).mono ?_); rintro e wx ⟨rfl, hb⟩; replace hC := hC.step hb; clear hb) | (go_at_call 10; (with_reducible refine (H10.out _ hC).mono ?_); rintro e wx ⟨rfl, hb⟩; replace hC := hC.step hb; clear hb) | fail)
      go_ret
      exact ⟨rfl, hC.below⟩
  · subst q4; subst q5
    rcases q2 with ⟨rfl, rfl⟩ | ⟨rfl, rfl, rfl⟩ | ⟨rfl, rfl, rfl⟩
    all_goals
      go_enter Tryd.func8, Tryd.ntmps8
      go_wp2_with (first | (go_at_call 9; refine (known_c hC).mono ?_; rintro e wx ⟨rfl, hb⟩; replace hC := hC.step hb; clear hb) | (go_at_call 10; (with_reducible refine (H8.out _ hC).mono ?_); rintro e wx ⟨rfl, hb⟩; replace hC := hC.step hb; clear hb) | (go_at_call 10; (with_reducible refine (H5.out _ hC).mono ?_); rintro e wx ⟨rfl, hb⟩; replace hC := hC.step hb; clear hb) | (go_at_call 10; (with_reducible refine (H3.out _ hC).mono ?_); rintro e wx ⟨rfl, hb⟩; replace hC := hC.step hb; clear hb) | (go_at_call 10; (with_reducible refine (H6.out _ hC).mono ?_); rintro e wx ⟨rfl, hb⟩; replace hC := hC.step hb; clear hb) | (go_at_call 10; (with_reducible refine (H9.out _ hC).mono ?_); rintro e wx ⟨rfl, hb⟩; replace hC := hC.step hb; clear hb) | (go_at_call 10; (with_reducible refine (H12.out _ hC).mono ?_); rintro e wx ⟨rfl, hb⟩; replace hC := hC.step hb; clear hb) | (go_at_call 10; (with_reducible refine (H4.out _ hC).mono ?_); rintro e wx ⟨rfl, hb⟩; replace hC := hC.step hb; clear hb) | (go_at_call 10; (with_reducible refine (H7.out _ hC).mono ?_); rintro e wx ⟨rfl, hb⟩; replace hC := hC.step hb; clear hb) | (go_at_call 10; (with_reducible refine (H1.out _ hC).mono ?_); rintro e wx ⟨rfl, hb⟩; replace hC := hC.step hb; clear hb) | (go_at_call 10; (with_reducible refine (H11.out _ hC).mono ?_); rintro e wx ⟨rfl, hb⟩; replace hC := hC.step hb; clear hb) | (go_at_call 10; (with_reducible refine (H10.out _ hC).mono ?_); rintro e wx ⟨rfl, hb⟩; replace hC := hC.step hb; clear hb) | fail)
      go_ret
      exact ⟨rfl, hC.below⟩
end Go.Proofs.YtjhbjgpkpcfdmaaDoor
