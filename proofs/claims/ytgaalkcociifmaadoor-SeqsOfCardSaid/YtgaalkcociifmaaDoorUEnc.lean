/- utf.Encode: a scalar's bytes. -/
import Derived.Test.YtgaalkcociifmaaDoorUWords
namespace Go.Proofs.YtgaalkcociifmaaDoor.U
open Go.RowKit Go.Shelf UtfM

def EncPost (w : World) (r : Int) (e : Ending) (w' : World) : Prop :=
  ∃ P c, e = .returned (.slice P (enc r).length c) ∧ By w' P (enc r) ∧ (enc r).length ≤ c ∧ c ≤ 4 ∧ (P = none → c = 0) ∧ (enc r = [] → P = none) ∧ Below w.heap.size w w'

def EncNew (w : World) (r : Int) (e : Ending) (w' : World) : Prop :=
  ∃ P c, e = .returned (.slice P (enc r).length c) ∧ By w' P (enc r) ∧ (enc r).length ≤ c ∧ c ≤ 4 ∧ (P = none → c = 0) ∧ (enc r = [] → P = none) ∧ (∀ a, P = some a → w.heap.size ≤ a.block) ∧ Below w.heap.size w w'

theorem wraps_i64 (n : Int) (_h₀ : 0 ≤ n) (h₁ : n < 2 ^ 31) : IntKind.i64.wrap n = n := by rw [IntKind.wrap_i64]; omega
theorem i64_and63 (x : Int) (h₀ : 0 ≤ x) (h₁ : x < 2147483648) : bits .and .i64 x 63 = x % 64 := bits_mask .i64 31 (by decide) wraps_i64 6 (by decide) x h₀ h₁
theorem i64_or6 (x y : Int) (hx₀ : 0 ≤ x) (hx : x % 64 = 0) (hx₁ : x < 2147483648) (h₀ : 0 ≤ y) (h₁ : y < 64) : bits .or .i64 x y = x + y :=
  bits_join .i64 31 (by decide) wraps_i64 6 x y hx₀ hx hx₁ h₀ h₁ (by omega)
theorem i64_or5 (x y : Int) (hx₀ : 0 ≤ x) (hx : x % 32 = 0) (hx₁ : x < 2147483648) (h₀ : 0 ≤ y) (h₁ : y < 32) : bits .or .i64 x y = x + y :=
  bits_join .i64 31 (by decide) wraps_i64 5 x y hx₀ hx hx₁ h₀ h₁ (by omega)
theorem i64_or4 (x y : Int) (hx₀ : 0 ≤ x) (hx : x % 16 = 0) (hx₁ : x < 2147483648) (h₀ : 0 ≤ y) (h₁ : y < 16) : bits .or .i64 x y = x + y :=
  bits_join .i64 31 (by decide) wraps_i64 4 x y hx₀ hx hx₁ h₀ h₁ (by omega)
theorem i64_or0 (y : Int) (h₀ : 0 ≤ y) (h₁ : y < 2147483648) : bits .or .i64 0 y = y := by
  rw [bits_join .i64 31 (by decide) wraps_i64 31 0 y (by decide) (by decide) (by decide) h₀ (by omega) (by omega)]; omega

/-- A new block of bytes. -/
theorem by_new (w : World) (t : TypeId) (l : List Int) (hl : IsBytes l) : By (w.alloc (.cells (l.map (Value.int .u8)).toArray t)) (some ⟨w.heap.size, 0, none⟩) l :=
  ⟨hl, fun _ => ⟨w.heap.size, 0, rfl, by rw [World.size_alloc]; omega, fun j hj => by
    rw [cell_of_row _ w.heap.size _ _ _ _ (heap_alloc_new w _)]
    simp [hj]⟩⟩
theorem enc_shut (w : World) (r : Int) (l : List Int) (n : Nat) (h : enc r = l) (hn : l.length = n) (hn4 : n ≤ 4) (hne : 0 < n) (C : Array Value) (hC : C = (l.map (Value.int .u8)).toArray) :
    EncNew w r (.returned (.slice (some ⟨w.heap.size, 0, none⟩) n n)) (w.alloc (.cells C 5)) := by
  subst hn hC
  refine ⟨_, _, by rw [h], by rw [h]; exact by_new w _ l (by rw [← h]; exact enc_bytes r), by rw [h]; exact Nat.le_refl _, hn4, (fun h => by cases h), (fun h0 => by rw [h] at h0; subst h0; exact absurd hne (by simp)), (fun a ha => by cases ha; exact Nat.le_refl _), (Below.refl _ _).alloc (Nat.le_refl _) _⟩

set_option maxRecDepth 100000 in
set_option maxHeartbeats 1000000 in
theorem enc_low (r : Int) (h : r < 0) (w : World) : Calls Tryd.prog 71 #[.int .i64 r] w (EncNew w r) := by
  have HS := Lib.hid (enc0 (r := r) (by unfold Sc; omega))
  go_enter Tryd.func71, Tryd.ntmps71
  go_wp2
  go_ret
  exact ⟨none, 0, by rw [HS.out]; rfl, by rw [HS.out]; exact By.nil, by rw [HS.out]; simp, by omega, fun _ => rfl, fun _ => rfl, (fun a ha => by cases ha), Below.refl _ _⟩

set_option maxRecDepth 100000 in
set_option maxHeartbeats 1000000 in
theorem enc_high (r : Int) (h : 1114111 < r) (w : World) : Calls Tryd.prog 71 #[.int .i64 r] w (EncNew w r) := by
  have HS := Lib.hid (enc0 (r := r) (by unfold Sc; omega))
  have d0 : ¬ (r < 0) := by omega
  go_enter Tryd.func71, Tryd.ntmps71
  go_wp2
  go_ret
  exact ⟨none, 0, by rw [HS.out]; rfl, by rw [HS.out]; exact By.nil, by rw [HS.out]; simp, by omega, fun _ => rfl, fun _ => rfl, (fun a ha => by cases ha), Below.refl _ _⟩

set_option maxRecDepth 100000 in
set_option maxHeartbeats 1000000 in
theorem enc_gap (r : Int) (h : 55296 ≤ r) (h2 : r ≤ 57343) (w : World) : Calls Tryd.prog 71 #[.int .i64 r] w (EncNew w r) := by
  have HS := Lib.hid (enc0 (r := r) (by unfold Sc; omega))
  have d0 : ¬ (r < 0) := by omega
  have d1 : ¬ (1114111 < r) := by omega
  go_enter Tryd.func71, Tryd.ntmps71
  go_wp2
  go_ret
  exact ⟨none, 0, by rw [HS.out]; rfl, by rw [HS.out]; exact By.nil, by rw [HS.out]; simp, by omega, fun _ => rfl, fun _ => rfl, (fun a ha => by cases ha), Below.refl _ _⟩

set_option maxRecDepth 100000 in
set_option maxHeartbeats 1000000 in
theorem enc_one (r : Int) (h : 0 ≤ r) (h2 : r < 128) (w : World) : Calls Tryd.prog 71 #[.int .i64 r] w (EncNew w r) := by
  have hmk : ∀ w, (Instr.makeSlice 30 (.int .i64 1) (.int .i64 1)).run Tryd.prog w = .ok (.slice (some ⟨w.heap.size, 0, none⟩) 1 1) (w.alloc (.cells #[.int .u8 0] 5)) := fun _ => by kernel_rfl
  have d0 : ¬ (r < 0) := by omega
  have d1 : ¬ (1114111 < r) := by omega
  have d2 : ¬ (55296 ≤ r) := by omega
  go_enter Tryd.func71, Tryd.ntmps71
  go_wp2
  refine wp_loop_rounds 1 ?_
  rw [rounds_succ]
  go_wp2
  go_ret
  refine enc_shut w r [r] 1 (enc1 (by unfold Sc; omega) h2) rfl (by omega) (by omega) _ ?_
  simp [i64_or0 r (by omega) (by omega)]; omega

set_option maxRecDepth 100000 in
set_option maxHeartbeats 1000000 in
theorem enc_two (r : Int) (h : 128 ≤ r) (h2 : r < 2048) (w : World) : Calls Tryd.prog 71 #[.int .i64 r] w (EncNew w r) := by
  have hmk : ∀ w, (Instr.makeSlice 30 (.int .i64 2) (.int .i64 2)).run Tryd.prog w = .ok (.slice (some ⟨w.heap.size, 0, none⟩) 2 2) (w.alloc (.cells #[.int .u8 0, .int .u8 0] 5)) := fun _ => by kernel_rfl
  have d0 : ¬ (r < 0) := by omega
  have d1 : ¬ (1114111 < r) := by omega
  have d2 : ¬ (55296 ≤ r) := by omega
  have d3 : ¬ (r < 128) := by omega
  go_enter Tryd.func71, Tryd.ntmps71
  go_wp2
  refine wp_loop_rounds 2 ?_
  rw [rounds_succ]
  go_wp2
  rw [rounds_succ]
  go_wp2
  go_ret
  refine enc_shut w r [192 + r / 64, 128 + r % 64] 2 (enc2 (by unfold Sc; omega) h h2) rfl (by omega) (by omega) _ ?_
  rw [i64_and63 r (by omega) (by omega), i64_or6 128 (r % 64) (by omega) (by omega) (by omega) (by omega) (by omega), i64_or5 192 (r / 64) (by omega) (by omega) (by omega) (by omega) (by omega)]; simp; omega

set_option maxRecDepth 100000 in
set_option maxHeartbeats 1000000 in
theorem enc_three (r : Int) (h : 2048 ≤ r) (h2 : r < 55296) (w : World) : Calls Tryd.prog 71 #[.int .i64 r] w (EncNew w r) := by
  have hmk : ∀ w, (Instr.makeSlice 30 (.int .i64 3) (.int .i64 3)).run Tryd.prog w = .ok (.slice (some ⟨w.heap.size, 0, none⟩) 3 3) (w.alloc (.cells #[.int .u8 0, .int .u8 0, .int .u8 0] 5)) := fun _ => by kernel_rfl
  have d0 : ¬ (r < 0) := by omega
  have d1 : ¬ (1114111 < r) := by omega
  have d2 : ¬ (55296 ≤ r) := by omega
  have d3 : ¬ (r < 128) := by omega
  have d4 : ¬ (r < 2048) := by omega
  have d5 : r < 65536 := by omega
  go_enter Tryd.func71, Tryd.ntmps71
  go_wp2
  refine wp_loop_rounds 3 ?_
  rw [rounds_succ]
  go_wp2
  rw [rounds_succ]
  go_wp2
  rw [rounds_succ]
  go_wp2
  go_ret
  refine enc_shut w r [224 + r / 4096, 128 + r / 64 % 64, 128 + r % 64] 3 (enc3 (by unfold Sc; omega) h (by omega)) rfl (by omega) (by omega) _ ?_
  rw [i64_and63 r (by omega) (by omega), i64_or6 128 (r % 64) (by omega) (by omega) (by omega) (by omega) (by omega), i64_and63 (r / 64) (by omega) (by omega), i64_or6 128 (r / 64 % 64) (by omega) (by omega) (by omega) (by omega) (by omega), i64_or5 224 (r / 64 / 64) (by omega) (by omega) (by omega) (by omega) (by omega)]; simp; omega

set_option maxRecDepth 100000 in
set_option maxHeartbeats 1000000 in
theorem enc_threeb (r : Int) (h : 57344 ≤ r) (h2 : r < 65536) (w : World) : Calls Tryd.prog 71 #[.int .i64 r] w (EncNew w r) := by
  have hmk : ∀ w, (Instr.makeSlice 30 (.int .i64 3) (.int .i64 3)).run Tryd.prog w = .ok (.slice (some ⟨w.heap.size, 0, none⟩) 3 3) (w.alloc (.cells #[.int .u8 0, .int .u8 0, .int .u8 0] 5)) := fun _ => by kernel_rfl
  have d0 : ¬ (r < 0) := by omega
  have d1 : ¬ (1114111 < r) := by omega
  have d2 : 55296 ≤ r := by omega
  have d6 : ¬ (r ≤ 57343) := by omega
  have d3 : ¬ (r < 128) := by omega
  have d4 : ¬ (r < 2048) := by omega
  go_enter Tryd.func71, Tryd.ntmps71
  go_wp2
  refine wp_loop_rounds 3 ?_
  rw [rounds_succ]
  go_wp2
  rw [rounds_succ]
  go_wp2
  rw [rounds_succ]
  go_wp2
  go_ret
  refine enc_shut w r [224 + r / 4096, 128 + r / 64 % 64, 128 + r % 64] 3 (enc3 (by unfold Sc; omega) (by omega) h2) rfl (by omega) (by omega) _ ?_
  rw [i64_and63 r (by omega) (by omega), i64_or6 128 (r % 64) (by omega) (by omega) (by omega) (by omega) (by omega), i64_and63 (r / 64) (by omega) (by omega), i64_or6 128 (r / 64 % 64) (by omega) (by omega) (by omega) (by omega) (by omega), i64_or5 224 (r / 64 / 64) (by omega) (by omega) (by omega) (by omega) (by omega)]; simp; omega

set_option maxRecDepth 100000 in
set_option maxHeartbeats 1000000 in
theorem enc_four (r : Int) (h : 65536 ≤ r) (h2 : r ≤ 1114111) (w : World) : Calls Tryd.prog 71 #[.int .i64 r] w (EncNew w r) := by
  have hmk : ∀ w, (Instr.makeSlice 30 (.int .i64 4) (.int .i64 4)).run Tryd.prog w = .ok (.slice (some ⟨w.heap.size, 0, none⟩) 4 4) (w.alloc (.cells #[.int .u8 0, .int .u8 0, .int .u8 0, .int .u8 0] 5)) := fun _ => by kernel_rfl
  have d0 : ¬ (r < 0) := by omega
  have d1 : ¬ (1114111 < r) := by omega
  have d2 : 55296 ≤ r := by omega
  have d6 : ¬ (r ≤ 57343) := by omega
  have d3 : ¬ (r < 128) := by omega
  have d4 : ¬ (r < 2048) := by omega
  have d5 : ¬ (r < 65536) := by omega
  go_enter Tryd.func71, Tryd.ntmps71
  go_wp2
  refine wp_loop_rounds 4 ?_
  rw [rounds_succ]
  go_wp2
  rw [rounds_succ]
  go_wp2
  rw [rounds_succ]
  go_wp2
  rw [rounds_succ]
  go_wp2
  go_ret
  refine enc_shut w r [240 + r / 262144, 128 + r / 4096 % 64, 128 + r / 64 % 64, 128 + r % 64] 4 (enc4 (by unfold Sc; omega) h) rfl (by omega) (by omega) _ ?_
  rw [i64_and63 r (by omega) (by omega), i64_or6 128 (r % 64) (by omega) (by omega) (by omega) (by omega) (by omega), i64_and63 (r / 64) (by omega) (by omega), i64_or6 128 (r / 64 % 64) (by omega) (by omega) (by omega) (by omega) (by omega), i64_and63 (r / 64 / 64) (by omega) (by omega), i64_or6 128 (r / 64 / 64 % 64) (by omega) (by omega) (by omega) (by omega) (by omega), i64_or4 240 (r / 64 / 64 / 64) (by omega) (by omega) (by omega) (by omega) (by omega)]; simp; omega

theorem enc_n (r : Int) (w : World) : Calls Tryd.prog 71 #[.int .i64 r] w (EncNew w r) := by
  by_cases h0 : r < 0
  · exact enc_low r h0 w
  by_cases h1 : 1114111 < r
  · exact enc_high r h1 w
  by_cases h2 : r < 128
  · exact enc_one r (by omega) h2 w
  by_cases h3 : r < 2048
  · exact enc_two r (by omega) h3 w
  by_cases h4 : r < 55296
  · exact enc_three r (by omega) h4 w
  by_cases h5 : r ≤ 57343
  · exact enc_gap r (by omega) h5 w
  by_cases h6 : r < 65536
  · exact enc_threeb r (by omega) h6 w
  exact enc_four r (by omega) (by omega) w
theorem enc_c (r : Int) (w : World) : Calls Tryd.prog 71 #[.int .i64 r] w (EncPost w r) :=
  (enc_n r w).mono fun _ _ ⟨P, c, h1, h2, h3, h4, h5, h6, _, h7⟩ => ⟨P, c, h1, h2, h3, h4, h5, h6, h7⟩
end Go.Proofs.YtgaalkcociifmaaDoor.U
