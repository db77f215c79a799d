/- PropsApart's walk: great and small letters, letters and digits, words and blanks have nothing in common. -/
import Derived.Test.YtjhbjgpkpcfdmaaDoorPKnown
namespace Go.Proofs.YtjhbjgpkpcfdmaaDoor
open Go.RowKit Go.Shelf SetM PropsM

theorem apart_0 (r : Int) : (decide (Tells (gathOf 11) r) && decide (Tells (gathOf 10) r)) = false := by
  rw [Bool.and_eq_false_iff, decide_eq_false_iff_not, decide_eq_false_iff_not]
  by_cases h2 : Tells (gathOf 10) r
  · refine .inl (fun h1 => ?_)
    have h1 := h1.2
    have h2 := h2.2
    rw [show gathOf 11 = [(65, 90), (192, 214), (216, 222), (913, 929), (931, 937), (1024, 1071)] from rfl] at h1
    rw [show gathOf 10 = [(97, 122), (223, 246), (248, 255), (945, 969), (1072, 1119)] from rfl] at h2
    simp only [mem_cons, mem_nil, or_false] at h1 h2
    rcases h2 with h2 | h2 | h2 | h2 | h2 <;> omega
  · exact .inr h2
theorem apart_1 (r : Int) : (decide (Tells (gathOf 9) r) && decide (Tells (gathOf 4) r)) = false := by
  rw [Bool.and_eq_false_iff, decide_eq_false_iff_not, decide_eq_false_iff_not]
  by_cases h2 : Tells (gathOf 4) r
  · refine .inl (fun h1 => ?_)
    have h1 := h1.2
    have h2 := h2.2
    rw [show gathOf 9 = [(65, 90), (97, 122), (170, 170), (186, 186), (192, 214), (216, 246), (248, 591), (880, 883), (885, 887), (890, 895), (900, 900), (902, 902), (904, 906), (908, 908), (910, 929), (931, 993), (1008, 1023), (1024, 1279), (13312, 19903), (19968, 40959), (131072, 173791)] from rfl] at h1
    rw [show gathOf 4 = [(48, 57), (1632, 1641), (2406, 2415), (65296, 65305)] from rfl] at h2
    simp only [mem_cons, mem_nil, or_false] at h1 h2
    rcases h2 with h2 | h2 | h2 | h2 <;> omega
  · exact .inr h2
theorem apart_2 (r : Int) : (decide (Tells (gathOf 12) r) && decide (Tells (gathOf 2) r)) = false := by
  rw [Bool.and_eq_false_iff, decide_eq_false_iff_not, decide_eq_false_iff_not]
  by_cases h2 : Tells (gathOf 2) r
  · refine .inl (fun h1 => ?_)
    have h1 := h1.2
    have h2 := h2.2
    rw [show gathOf 12 = [(95, 95), (65, 90), (97, 122), (170, 170), (186, 186), (192, 214), (216, 246), (248, 591), (880, 883), (885, 887), (890, 895), (900, 900), (902, 902), (904, 906), (908, 908), (910, 929), (931, 993), (1008, 1023), (1024, 1279), (13312, 19903), (19968, 40959), (131072, 173791), (48, 57), (1632, 1641), (2406, 2415), (65296, 65305)] from rfl] at h1
    rw [show gathOf 2 = [(9, 9), (32, 32), (160, 160), (12288, 12288)] from rfl] at h2
    simp only [mem_cons, mem_nil, or_false] at h1 h2
    rcases h2 with h2 | h2 | h2 | h2 <;> omega
  · exact .inr h2

set_option maxRecDepth 100000 in
set_option maxHeartbeats 4000000 in
theorem propsApart_any (r : Int) (w : World) (hC : Ctx w w) :
    Calls Tryd.prog 3 #[.int .i64 r] w fun e w' => e = .returned (.bool true) ∧ Below w.heap.size w w' := by
  have HA0 : Hid (∀ W, Ctx w W → Calls Tryd.prog 10 #[.string ⟨#[117, 112, 112, 101, 114]⟩, .int .i64 r] W fun e W' => e = .returned (.bool (decide (Tells (gathOf 11) r))) ∧ Below W.heap.size W W') := Lib.hid (fun W h => inclass_c ⟨#[117, 112, 112, 101, 114]⟩ (by decide) 11 (by decide) r h)
  have HB0 : Hid (∀ W, Ctx w W → Calls Tryd.prog 10 #[.string ⟨#[108, 111, 119, 101, 114]⟩, .int .i64 r] W fun e W' => e = .returned (.bool (decide (Tells (gathOf 10) r))) ∧ Below W.heap.size W W') := Lib.hid (fun W h => inclass_c ⟨#[108, 111, 119, 101, 114]⟩ (by decide) 10 (by decide) r h)
  have hp0 := apart_0 r
  generalize decide (Tells (gathOf 11) r) = a0 at *
  generalize decide (Tells (gathOf 10) r) = b0 at *
  have HA1 : Hid (∀ W, Ctx w W → Calls Tryd.prog 10 #[.string ⟨#[108, 101, 116, 116, 101, 114]⟩, .int .i64 r] W fun e W' => e = .returned (.bool (decide (Tells (gathOf 9) r))) ∧ Below W.heap.size W W') := Lib.hid (fun W h => inclass_c ⟨#[108, 101, 116, 116, 101, 114]⟩ (by decide) 9 (by decide) r h)
  have HB1 : Hid (∀ W, Ctx w W → Calls Tryd.prog 10 #[.string ⟨#[100, 105, 103, 105, 116]⟩, .int .i64 r] W fun e W' => e = .returned (.bool (decide (Tells (gathOf 4) r))) ∧ Below W.heap.size W W') := Lib.hid (fun W h => inclass_c ⟨#[100, 105, 103, 105, 116]⟩ (by decide) 4 (by decide) r h)
  have hp1 := apart_1 r
  generalize decide (Tells (gathOf 9) r) = a1 at *
  generalize decide (Tells (gathOf 4) r) = b1 at *
  have HA2 : Hid (∀ W, Ctx w W → Calls Tryd.prog 10 #[.string ⟨#[119, 111, 114, 100]⟩, .int .i64 r] W fun e W' => e = .returned (.bool (decide (Tells (gathOf 12) r))) ∧ Below W.heap.size W W') := Lib.hid (fun W h => inclass_c ⟨#[119, 111, 114, 100]⟩ (by decide) 12 (by decide) r h)
  have HB2 : Hid (∀ W, Ctx w W → Calls Tryd.prog 10 #[.string ⟨#[98, 108, 97, 110, 107]⟩, .int .i64 r] W fun e W' => e = .returned (.bool (decide (Tells (gathOf 2) r))) ∧ Below W.heap.size W W') := Lib.hid (fun W h => inclass_c ⟨#[98, 108, 97, 110, 107]⟩ (by decide) 2 (by decide) r h)
  have hp2 := apart_2 r
  generalize decide (Tells (gathOf 12) r) = a2 at *
  generalize decide (Tells (gathOf 2) r) = b2 at *
  have hq0 : a0 = false ∨ (a0 = true ∧ b0 = false) := by cases a0 <;> simp_all
  have hq1 : a1 = false ∨ (a1 = true ∧ b1 = false) := by cases a1 <;> simp_all
  have hq2 : a2 = false ∨ (a2 = true ∧ b2 = false) := by cases a2 <;> simp_all
  clear hp0 hp1 hp2
  rcases hq0 with rfl | ⟨rfl, rfl⟩ <;> rcases hq1 with rfl | ⟨rfl, rfl⟩ <;> rcases hq2 with rfl | ⟨rfl, rfl⟩
  all_goals
    go_enter Tryd.func3, Tryd.ntmps3
    go_wp2_with (first | (go_at_call 9; refine (known_c hC).mono ?_; rintro e wx ⟨rfl, hb⟩; replace hC := hC.step hb; clear hb) | (go_at_call 10; (with_reducible refine (HA0.out _ hC).mono ?_); rintro e wx ⟨rfl, hb⟩; replace hC := hC.step hb; clear hb) | (go_at_call 10; (with_reducible refine (HB0.out _ hC).mono ?_); rintro e wx ⟨rfl, hb⟩; replace hC := hC.step hb; clear hb) | (go_at_call 10; (with_reducible refine (HA1.out _ hC).mono ?_); rintro e wx ⟨rfl, hb⟩; replace hC := hC.step hb; clear hb) | (go_at_call 10; (with_reducible refine (HB1.out _ hC).mono ?_); rintro e wx ⟨rfl, hb⟩; replace hC := hC.step hb; clear hb) | (go_at_call 10; (with_reducible refine (HA2.out _ hC).mono ?_); rintro e wx ⟨rfl, hb⟩; replace hC := hC.step hb; clear hb) | (go_at_call 10; (with_reducible refine (HB2.out _ hC).mono ?_); rintro e wx ⟨rfl, hb⟩; replace hC := hC.step hb; clear hb) | fail)
    go_ret
    exact ⟨rfl, hC.below⟩
end Go.Proofs.YtjhbjgpkpcfdmaaDoor
