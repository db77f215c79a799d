/- The document's own Decode: long, second, Decode. -/
import Derived.Test.YtgaalkcociifmaaDoorUTail
namespace Go.Proofs.YtgaalkcociifmaaDoor.U
open Go.RowKit Go.Shelf UtfM

/-- How many bytes a first one begins. -/
def longF (a : Int) : Nat := match lead a with
  | some s => s.more + 1
  | none => 0
def secondF (a b : Int) : Bool :=
  if a = 224 then decide (160 ≤ b ∧ b ≤ 191) else if a = 237 then decide (128 ≤ b ∧ b ≤ 159) else if a = 240 then decide (144 ≤ b ∧ b ≤ 191) else if a = 244 then decide (128 ≤ b ∧ b ≤ 143) else decide (128 ≤ b ∧ b ≤ 191)
theorem longF1 {a : Int} (h : a < 128) : longF a = 1 := by unfold longF; rw [lead1 h]
theorem longF2 {a : Int} (h : 194 ≤ a) (h2 : a ≤ 223) : longF a = 2 := by unfold longF; rw [lead2 h (by omega)]
theorem longF3 {a : Int} (h : 224 ≤ a) (h2 : a ≤ 239) : longF a = 3 := by obtain ⟨lo, hi, e, _⟩ := lead3 h (by omega); unfold longF; rw [e]
theorem longF4 {a : Int} (h : 240 ≤ a) (h2 : a ≤ 244) : longF a = 4 := by obtain ⟨lo, hi, e, _⟩ := lead4 h h2; unfold longF; rw [e]
theorem longF0 {a : Int} (h : (128 ≤ a ∧ a < 194) ∨ 244 < a) : longF a = 0 := by
  have : lead a = none := by
    rcases lead_cases a with h1 | h1 | h1 | h1 | h1
    · omega
    · exact h1
    · omega
    · omega
    · omega
  unfold longF; rw [this]

set_option maxHeartbeats 1000000 in
theorem long_1 (a : Int) (h : a < 128) (w : World) : Calls Tryd.prog 45 #[.int .u8 a] w fun e w' => e = .returned (.int .i64 1) ∧ w = w' := by
  have d0 : a < 128 := by omega
  go_enter Tryd.func45, Tryd.ntmps45
  go_wp2
  go_ret
  exact ⟨rfl, rfl⟩

set_option maxHeartbeats 1000000 in
theorem long_0a (a : Int) (h : 128 ≤ a) (h2 : a < 194) (w : World) : Calls Tryd.prog 45 #[.int .u8 a] w fun e w' => e = .returned (.int .i64 0) ∧ w = w' := by
  have d0 : ¬ (a < 128) := by omega
  have d1 : decide (194 ≤ a) = false := decide_eq_false (by omega)
  have d2 : decide (224 ≤ a) = false := decide_eq_false (by omega)
  have d3 : decide (240 ≤ a) = false := decide_eq_false (by omega)
  go_enter Tryd.func45, Tryd.ntmps45
  go_wp2
  go_ret
  exact ⟨rfl, rfl⟩

set_option maxHeartbeats 1000000 in
theorem long_2 (a : Int) (h : 194 ≤ a) (h2 : a ≤ 223) (w : World) : Calls Tryd.prog 45 #[.int .u8 a] w fun e w' => e = .returned (.int .i64 2) ∧ w = w' := by
  have d0 : ¬ (a < 128) := by omega
  have d1 : decide (194 ≤ a) = true := decide_eq_true (by omega)
  have d2 : decide (a ≤ 223) = true := decide_eq_true (by omega)
  go_enter Tryd.func45, Tryd.ntmps45
  go_wp2
  go_ret
  exact ⟨rfl, rfl⟩

set_option maxHeartbeats 1000000 in
theorem long_3 (a : Int) (h : 224 ≤ a) (h2 : a ≤ 239) (w : World) : Calls Tryd.prog 45 #[.int .u8 a] w fun e w' => e = .returned (.int .i64 3) ∧ w = w' := by
  have d0 : ¬ (a < 128) := by omega
  have d1 : decide (194 ≤ a) = true := decide_eq_true (by omega)
  have d2 : decide (a ≤ 223) = false := decide_eq_false (by omega)
  have d3 : decide (224 ≤ a) = true := decide_eq_true (by omega)
  have d4 : decide (a ≤ 239) = true := decide_eq_true (by omega)
  go_enter Tryd.func45, Tryd.ntmps45
  go_wp2
  go_ret
  exact ⟨rfl, rfl⟩

set_option maxHeartbeats 1000000 in
theorem long_4 (a : Int) (h : 240 ≤ a) (h2 : a ≤ 244) (w : World) : Calls Tryd.prog 45 #[.int .u8 a] w fun e w' => e = .returned (.int .i64 4) ∧ w = w' := by
  have d0 : ¬ (a < 128) := by omega
  have d1 : decide (194 ≤ a) = true := decide_eq_true (by omega)
  have d2 : decide (a ≤ 223) = false := decide_eq_false (by omega)
  have d3 : decide (224 ≤ a) = true := decide_eq_true (by omega)
  have d4 : decide (a ≤ 239) = false := decide_eq_false (by omega)
  have d5 : decide (240 ≤ a) = true := decide_eq_true (by omega)
  have d6 : decide (a ≤ 244) = true := decide_eq_true (by omega)
  go_enter Tryd.func45, Tryd.ntmps45
  go_wp2
  go_ret
  exact ⟨rfl, rfl⟩

set_option maxHeartbeats 1000000 in
theorem long_0b (a : Int) (h : 244 < a) (w : World) : Calls Tryd.prog 45 #[.int .u8 a] w fun e w' => e = .returned (.int .i64 0) ∧ w = w' := by
  have d0 : ¬ (a < 128) := by omega
  have d1 : decide (194 ≤ a) = true := decide_eq_true (by omega)
  have d2 : decide (a ≤ 223) = false := decide_eq_false (by omega)
  have d3 : decide (224 ≤ a) = true := decide_eq_true (by omega)
  have d4 : decide (a ≤ 239) = false := decide_eq_false (by omega)
  have d5 : decide (240 ≤ a) = true := decide_eq_true (by omega)
  have d6 : decide (a ≤ 244) = false := decide_eq_false (by omega)
  go_enter Tryd.func45, Tryd.ntmps45
  go_wp2
  go_ret
  exact ⟨rfl, rfl⟩

theorem long_c (a : Int) (w : World) : Calls Tryd.prog 45 #[.int .u8 a] w fun e w' => e = .returned (.int .i64 (longF a : Int)) ∧ w = w' := by
  by_cases h1 : a < 128
  · rw [longF1 h1]; exact long_1 a h1 w
  by_cases h2 : a < 194
  · rw [longF0 (.inl ⟨by omega, h2⟩)]; exact long_0a a (by omega) h2 w
  by_cases h3 : a ≤ 223
  · rw [longF2 (by omega) h3]; exact long_2 a (by omega) h3 w
  by_cases h4 : a ≤ 239
  · rw [longF3 (by omega) h4]; exact long_3 a (by omega) h4 w
  by_cases h5 : a ≤ 244
  · rw [longF4 (by omega) h5]; exact long_4 a (by omega) h5 w
  rw [longF0 (.inr (by omega))]; exact long_0b a (by omega) w

set_option maxHeartbeats 1000000 in
theorem second_0_0 (a b : Int) (h0 : (a = 224)) (p : 160 ≤ b) (q : b ≤ 191) (w : World) : Calls Tryd.prog 46 #[.int .u8 a, .int .u8 b] w fun e w' => e = .returned (.bool true) ∧ w = w' := by
  have t0 : (a == 224) = true := by rw [beq_iff_eq]; exact h0
  have dp : decide (160 ≤ b) = true := decide_eq_true p
  have dq : decide (b ≤ 191) = true := decide_eq_true q
  clear h0
  go_enter Tryd.func46, Tryd.ntmps46
  go_wp2
  go_ret
  exact ⟨rfl, rfl⟩

set_option maxHeartbeats 1000000 in
theorem second_0_1 (a b : Int) (h0 : (a = 224)) (p : 160 ≤ b) (q : ¬ (b ≤ 191)) (w : World) : Calls Tryd.prog 46 #[.int .u8 a, .int .u8 b] w fun e w' => e = .returned (.bool false) ∧ w = w' := by
  have t0 : (a == 224) = true := by rw [beq_iff_eq]; exact h0
  have dp : decide (160 ≤ b) = true := decide_eq_true p
  have dq : decide (b ≤ 191) = false := decide_eq_false q
  clear h0
  go_enter Tryd.func46, Tryd.ntmps46
  go_wp2
  go_ret
  exact ⟨rfl, rfl⟩

set_option maxHeartbeats 1000000 in
theorem second_0_2 (a b : Int) (h0 : (a = 224)) (p : ¬ (160 ≤ b)) (w : World) : Calls Tryd.prog 46 #[.int .u8 a, .int .u8 b] w fun e w' => e = .returned (.bool false) ∧ w = w' := by
  have t0 : (a == 224) = true := by rw [beq_iff_eq]; exact h0
  have dp : decide (160 ≤ b) = false := decide_eq_false p
  clear h0
  go_enter Tryd.func46, Tryd.ntmps46
  go_wp2
  go_ret
  exact ⟨rfl, rfl⟩

set_option maxHeartbeats 1000000 in
theorem second_1_0 (a b : Int) (h0 : ¬ (a = 224)) (h1 : (a = 237)) (p : 128 ≤ b) (q : b ≤ 159) (w : World) : Calls Tryd.prog 46 #[.int .u8 a, .int .u8 b] w fun e w' => e = .returned (.bool true) ∧ w = w' := by
  have t0 : (a == 224) = false := by rw [beq_eq_false_iff_ne]; exact h0
  have t1 : (a == 237) = true := by rw [beq_iff_eq]; exact h1
  have dp : decide (128 ≤ b) = true := decide_eq_true p
  have dq : decide (b ≤ 159) = true := decide_eq_true q
  clear h0 h1
  go_enter Tryd.func46, Tryd.ntmps46
  go_wp2
  go_ret
  exact ⟨rfl, rfl⟩

set_option maxHeartbeats 1000000 in
theorem second_1_1 (a b : Int) (h0 : ¬ (a = 224)) (h1 : (a = 237)) (p : 128 ≤ b) (q : ¬ (b ≤ 159)) (w : World) : Calls Tryd.prog 46 #[.int .u8 a, .int .u8 b] w fun e w' => e = .returned (.bool false) ∧ w = w' := by
  have t0 : (a == 224) = false := by rw [beq_eq_false_iff_ne]; exact h0
  have t1 : (a == 237) = true := by rw [beq_iff_eq]; exact h1
  have dp : decide (128 ≤ b) = true := decide_eq_true p
  have dq : decide (b ≤ 159) = false := decide_eq_false q
  clear h0 h1
  go_enter Tryd.func46, Tryd.ntmps46
  go_wp2
  go_ret
  exact ⟨rfl, rfl⟩

set_option maxHeartbeats 1000000 in
theorem second_1_2 (a b : Int) (h0 : ¬ (a = 224)) (h1 : (a = 237)) (p : ¬ (128 ≤ b)) (w : World) : Calls Tryd.prog 46 #[.int .u8 a, .int .u8 b] w fun e w' => e = .returned (.bool false) ∧ w = w' := by
  have t0 : (a == 224) = false := by rw [beq_eq_false_iff_ne]; exact h0
  have t1 : (a == 237) = true := by rw [beq_iff_eq]; exact h1
  have dp : decide (128 ≤ b) = false := decide_eq_false p
  clear h0 h1
  go_enter Tryd.func46, Tryd.ntmps46
  go_wp2
  go_ret
  exact ⟨rfl, rfl⟩

set_option maxHeartbeats 1000000 in
theorem second_2_0 (a b : Int) (h0 : ¬ (a = 224)) (h1 : ¬ (a = 237)) (h2 : (a = 240)) (p : 144 ≤ b) (q : b ≤ 191) (w : World) : Calls Tryd.prog 46 #[.int .u8 a, .int .u8 b] w fun e w' => e = .returned (.bool true) ∧ w = w' := by
  have t0 : (a == 224) = false := by rw [beq_eq_false_iff_ne]; exact h0
  have t1 : (a == 237) = false := by rw [beq_eq_false_iff_ne]; exact h1
  have t2 : (a == 240) = true := by rw [beq_iff_eq]; exact h2
  have dp : decide (144 ≤ b) = true := decide_eq_true p
  have dq : decide (b ≤ 191) = true := decide_eq_true q
  clear h0 h1 h2
  go_enter Tryd.func46, Tryd.ntmps46
  go_wp2
  go_ret
  exact ⟨rfl, rfl⟩

set_option maxHeartbeats 1000000 in
theorem second_2_1 (a b : Int) (h0 : ¬ (a = 224)) (h1 : ¬ (a = 237)) (h2 : (a = 240)) (p : 144 ≤ b) (q : ¬ (b ≤ 191)) (w : World) : Calls Tryd.prog 46 #[.int .u8 a, .int .u8 b] w fun e w' => e = .returned (.bool false) ∧ w = w' := by
  have t0 : (a == 224) = false := by rw [beq_eq_false_iff_ne]; exact h0
  have t1 : (a == 237) = false := by rw [beq_eq_false_iff_ne]; exact h1
  have t2 : (a == 240) = true := by rw [beq_iff_eq]; exact h2
  have dp : decide (144 ≤ b) = true := decide_eq_true p
  have dq : decide (b ≤ 191) = false := decide_eq_false q
  clear h0 h1 h2
  go_enter Tryd.func46, Tryd.ntmps46
  go_wp2
  go_ret
  exact ⟨rfl, rfl⟩

set_option maxHeartbeats 1000000 in
theorem second_2_2 (a b : Int) (h0 : ¬ (a = 224)) (h1 : ¬ (a = 237)) (h2 : (a = 240)) (p : ¬ (144 ≤ b)) (w : World) : Calls Tryd.prog 46 #[.int .u8 a, .int .u8 b] w fun e w' => e = .returned (.bool false) ∧ w = w' := by
  have t0 : (a == 224) = false := by rw [beq_eq_false_iff_ne]; exact h0
  have t1 : (a == 237) = false := by rw [beq_eq_false_iff_ne]; exact h1
  have t2 : (a == 240) = true := by rw [beq_iff_eq]; exact h2
  have dp : decide (144 ≤ b) = false := decide_eq_false p
  clear h0 h1 h2
  go_enter Tryd.func46, Tryd.ntmps46
  go_wp2
  go_ret
  exact ⟨rfl, rfl⟩

set_option maxHeartbeats 1000000 in
theorem second_3_0 (a b : Int) (h0 : ¬ (a = 224)) (h1 : ¬ (a = 237)) (h2 : ¬ (a = 240)) (h3 : (a = 244)) (p : 128 ≤ b) (q : b ≤ 143) (w : World) : Calls Tryd.prog 46 #[.int .u8 a, .int .u8 b] w fun e w' => e = .returned (.bool true) ∧ w = w' := by
  have t0 : (a == 224) = false := by rw [beq_eq_false_iff_ne]; exact h0
  have t1 : (a == 237) = false := by rw [beq_eq_false_iff_ne]; exact h1
  have t2 : (a == 240) = false := by rw [beq_eq_false_iff_ne]; exact h2
  have t3 : (a == 244) = true := by rw [beq_iff_eq]; exact h3
  have dp : decide (128 ≤ b) = true := decide_eq_true p
  have dq : decide (b ≤ 143) = true := decide_eq_true q
  clear h0 h1 h2 h3
  go_enter Tryd.func46, Tryd.ntmps46
  go_wp2
  go_ret
  exact ⟨rfl, rfl⟩

set_option maxHeartbeats 1000000 in
theorem second_3_1 (a b : Int) (h0 : ¬ (a = 224)) (h1 : ¬ (a = 237)) (h2 : ¬ (a = 240)) (h3 : (a = 244)) (p : 128 ≤ b) (q : ¬ (b ≤ 143)) (w : World) : Calls Tryd.prog 46 #[.int .u8 a, .int .u8 b] w fun e w' => e = .returned (.bool false) ∧ w = w' := by
  have t0 : (a == 224) = false := by rw [beq_eq_false_iff_ne]; exact h0
  have t1 : (a == 237) = false := by rw [beq_eq_false_iff_ne]; exact h1
  have t2 : (a == 240) = false := by rw [beq_eq_false_iff_ne]; exact h2
  have t3 : (a == 244) = true := by rw [beq_iff_eq]; exact h3
  have dp : decide (128 ≤ b) = true := decide_eq_true p
  have dq : decide (b ≤ 143) = false := decide_eq_false q
  clear h0 h1 h2 h3
  go_enter Tryd.func46, Tryd.ntmps46
  go_wp2
  go_ret
  exact ⟨rfl, rfl⟩

set_option maxHeartbeats 1000000 in
theorem second_3_2 (a b : Int) (h0 : ¬ (a = 224)) (h1 : ¬ (a = 237)) (h2 : ¬ (a = 240)) (h3 : (a = 244)) (p : ¬ (128 ≤ b)) (w : World) : Calls Tryd.prog 46 #[.int .u8 a, .int .u8 b] w fun e w' => e = .returned (.bool false) ∧ w = w' := by
  have t0 : (a == 224) = false := by rw [beq_eq_false_iff_ne]; exact h0
  have t1 : (a == 237) = false := by rw [beq_eq_false_iff_ne]; exact h1
  have t2 : (a == 240) = false := by rw [beq_eq_false_iff_ne]; exact h2
  have t3 : (a == 244) = true := by rw [beq_iff_eq]; exact h3
  have dp : decide (128 ≤ b) = false := decide_eq_false p
  clear h0 h1 h2 h3
  go_enter Tryd.func46, Tryd.ntmps46
  go_wp2
  go_ret
  exact ⟨rfl, rfl⟩

set_option maxHeartbeats 1000000 in
theorem second_4_0 (a b : Int) (h0 : ¬ (a = 224)) (h1 : ¬ (a = 237)) (h2 : ¬ (a = 240)) (h3 : ¬ (a = 244)) (p : 128 ≤ b) (q : b ≤ 191) (w : World) : Calls Tryd.prog 46 #[.int .u8 a, .int .u8 b] w fun e w' => e = .returned (.bool true) ∧ w = w' := by
  have t0 : (a == 224) = false := by rw [beq_eq_false_iff_ne]; exact h0
  have t1 : (a == 237) = false := by rw [beq_eq_false_iff_ne]; exact h1
  have t2 : (a == 240) = false := by rw [beq_eq_false_iff_ne]; exact h2
  have t3 : (a == 244) = false := by rw [beq_eq_false_iff_ne]; exact h3
  have dp : decide (128 ≤ b) = true := decide_eq_true p
  have dq : decide (b ≤ 191) = true := decide_eq_true q
  clear h0 h1 h2 h3
  go_enter Tryd.func46, Tryd.ntmps46
  go_wp2
  go_ret
  exact ⟨rfl, rfl⟩

set_option maxHeartbeats 1000000 in
theorem second_4_1 (a b : Int) (h0 : ¬ (a = 224)) (h1 : ¬ (a = 237)) (h2 : ¬ (a = 240)) (h3 : ¬ (a = 244)) (p : 128 ≤ b) (q : ¬ (b ≤ 191)) (w : World) : Calls Tryd.prog 46 #[.int .u8 a, .int .u8 b] w fun e w' => e = .returned (.bool false) ∧ w = w' := by
  have t0 : (a == 224) = false := by rw [beq_eq_false_iff_ne]; exact h0
  have t1 : (a == 237) = false := by rw [beq_eq_false_iff_ne]; exact h1
  have t2 : (a == 240) = false := by rw [beq_eq_false_iff_ne]; exact h2
  have t3 : (a == 244) = false := by rw [beq_eq_false_iff_ne]; exact h3
  have dp : decide (128 ≤ b) = true := decide_eq_true p
  have dq : decide (b ≤ 191) = false := decide_eq_false q
  clear h0 h1 h2 h3
  go_enter Tryd.func46, Tryd.ntmps46
  go_wp2
  go_ret
  exact ⟨rfl, rfl⟩

set_option maxHeartbeats 1000000 in
theorem second_4_2 (a b : Int) (h0 : ¬ (a = 224)) (h1 : ¬ (a = 237)) (h2 : ¬ (a = 240)) (h3 : ¬ (a = 244)) (p : ¬ (128 ≤ b)) (w : World) : Calls Tryd.prog 46 #[.int .u8 a, .int .u8 b] w fun e w' => e = .returned (.bool false) ∧ w = w' := by
  have t0 : (a == 224) = false := by rw [beq_eq_false_iff_ne]; exact h0
  have t1 : (a == 237) = false := by rw [beq_eq_false_iff_ne]; exact h1
  have t2 : (a == 240) = false := by rw [beq_eq_false_iff_ne]; exact h2
  have t3 : (a == 244) = false := by rw [beq_eq_false_iff_ne]; exact h3
  have dp : decide (128 ≤ b) = false := decide_eq_false p
  clear h0 h1 h2 h3
  go_enter Tryd.func46, Tryd.ntmps46
  go_wp2
  go_ret
  exact ⟨rfl, rfl⟩

theorem second_c (a b : Int) (w : World) : Calls Tryd.prog 46 #[.int .u8 a, .int .u8 b] w fun e w' => e = .returned (.bool (secondF a b)) ∧ w = w' := by
  unfold secondF
  by_cases h0 : a = 224
  · rw [if_pos h0]
    by_cases p : 160 ≤ b
    · by_cases q : b ≤ 191
      · rw [decide_eq_true (show 160 ≤ b ∧ b ≤ 191 from ⟨p, q⟩)]; exact second_0_0 a b h0 p q w
      · rw [decide_eq_false (show ¬ (160 ≤ b ∧ b ≤ 191) from fun h => q h.2)]; exact second_0_1 a b h0 p q w
    · rw [decide_eq_false (show ¬ (160 ≤ b ∧ b ≤ 191) from fun h => p h.1)]; exact second_0_2 a b h0 p w
  rw [if_neg h0]
  by_cases h1 : a = 237
  · rw [if_pos h1]
    by_cases p : 128 ≤ b
    · by_cases q : b ≤ 159
      · rw [decide_eq_true (show 128 ≤ b ∧ b ≤ 159 from ⟨p, q⟩)]; exact second_1_0 a b h0 h1 p q w
      · rw [decide_eq_false (show ¬ (128 ≤ b ∧ b ≤ 159) from fun h => q h.2)]; exact second_1_1 a b h0 h1 p q w
    · rw [decide_eq_false (show ¬ (128 ≤ b ∧ b ≤ 159) from fun h => p h.1)]; exact second_1_2 a b h0 h1 p w
  rw [if_neg h1]
  by_cases h2 : a = 240
  · rw [if_pos h2]
    by_cases p : 144 ≤ b
    · by_cases q : b ≤ 191
      · rw [decide_eq_true (show 144 ≤ b ∧ b ≤ 191 from ⟨p, q⟩)]; exact second_2_0 a b h0 h1 h2 p q w
      · rw [decide_eq_false (show ¬ (144 ≤ b ∧ b ≤ 191) from fun h => q h.2)]; exact second_2_1 a b h0 h1 h2 p q w
    · rw [decide_eq_false (show ¬ (144 ≤ b ∧ b ≤ 191) from fun h => p h.1)]; exact second_2_2 a b h0 h1 h2 p w
  rw [if_neg h2]
  by_cases h3 : a = 244
  · rw [if_pos h3]
    by_cases p : 128 ≤ b
    · by_cases q : b ≤ 143
      · rw [decide_eq_true (show 128 ≤ b ∧ b ≤ 143 from ⟨p, q⟩)]; exact second_3_0 a b h0 h1 h2 h3 p q w
      · rw [decide_eq_false (show ¬ (128 ≤ b ∧ b ≤ 143) from fun h => q h.2)]; exact second_3_1 a b h0 h1 h2 h3 p q w
    · rw [decide_eq_false (show ¬ (128 ≤ b ∧ b ≤ 143) from fun h => p h.1)]; exact second_3_2 a b h0 h1 h2 h3 p w
  rw [if_neg h3]
  by_cases p : 128 ≤ b
  · by_cases q : b ≤ 191
    · rw [decide_eq_true (show 128 ≤ b ∧ b ≤ 191 from ⟨p, q⟩)]; exact second_4_0 a b h0 h1 h2 h3 p q w
    · rw [decide_eq_false (show ¬ (128 ≤ b ∧ b ≤ 191) from fun h => q h.2)]; exact second_4_1 a b h0 h1 h2 h3 p q w
  · rw [decide_eq_false (show ¬ (128 ≤ b ∧ b ≤ 191) from fun h => p h.1)]; exact second_4_2 a b h0 h1 h2 h3 p w
end Go.Proofs.YtgaalkcociifmaaDoor.U
