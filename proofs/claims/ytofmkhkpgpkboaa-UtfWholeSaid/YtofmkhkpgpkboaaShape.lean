/- utf.shapeOf and takes: what a lead byte says. -/
import Derived.Test.YtofmkhkpgpkboaaEnc
namespace Go.Proofs.Ytofmkhkpgpkboaa
open Go.RowKit Go.Shelf UtfM

def aggS (s : Shape) : Value := .agg #[.int .i64 s.bits, .int .i64 s.more, .int .u8 s.lo, .int .u8 s.hi]
def shapeV : Option Shape → Value
  | some s => .tuple #[aggS s, .bool true]
  | none => .tuple #[.agg #[.int .i64 0, .int .i64 0, .int .u8 0, .int .u8 0], .bool false]
def ShapePost (w : World) (a : Int) (e : Ending) (w' : World) : Prop := e = .returned (shapeV (lead a)) ∧ Below w.heap.size w w'
theorem i64_and31 (x : Int) (h₀ : 0 ≤ x) (h₁ : x < 2147483648) : bits .and .i64 x 31 = x % 32 := bits_mask .i64 31 (by decide) wraps_i64 5 (by decide) x h₀ h₁
theorem i64_and15 (x : Int) (h₀ : 0 ≤ x) (h₁ : x < 2147483648) : bits .and .i64 x 15 = x % 16 := bits_mask .i64 31 (by decide) wraps_i64 4 (by decide) x h₀ h₁
theorem i64_and7 (x : Int) (h₀ : 0 ≤ x) (h₁ : x < 2147483648) : bits .and .i64 x 7 = x % 8 := bits_mask .i64 31 (by decide) wraps_i64 3 (by decide) x h₀ h₁

set_option maxRecDepth 100000 in
set_option maxHeartbeats 1000000 in
theorem shape_0 (a : Int) (ha : 0 ≤ a) (_hb : a ≤ 255) (h0 : a < 128) (w : World) : Calls Try.prog 21 #[.int .u8 a] w (ShapePost w a) := by
  have HL : Hid (lead a = some ⟨a, 0, 0, 0⟩) := Lib.hid (by unfold lead; rw [if_pos h0])
  have d0 : a < 128 := by omega
  clear h0
  go_enter Try.func21, Try.ntmps21
  go_wp2
  exact bodyPost_ret (v := .tuple #[.agg #[.int .i64 (a), .int .i64 0, .int .u8 0, .int .u8 0], .bool true]) (by simp [results, Try.results21, go_sem]) rfl ⟨by rw [HL.out]; rfl, (Below.refl _ _).alloc (Nat.le_refl _) _⟩

set_option maxRecDepth 100000 in
set_option maxHeartbeats 1000000 in
theorem shape_1 (a : Int) (ha : 0 ≤ a) (hb : a ≤ 255) (h0 : ¬ (a < 128)) (h1 : a < 194) (w : World) : Calls Try.prog 21 #[.int .u8 a] w (ShapePost w a) := by
  have HL : Hid (lead a = none) := Lib.hid (by unfold lead; rw [if_neg h0, if_pos h1])
  have d0 : ¬ (a < 128) := by omega
  have d1 : a < 194 := by omega
  clear h0 h1
  go_enter Try.func21, Try.ntmps21
  go_wp2
  exact bodyPost_ret (v := .tuple #[.agg #[.int .i64 0, .int .i64 0, .int .u8 0, .int .u8 0], .bool false]) (by simp [results, Try.results21, go_sem]) rfl ⟨by rw [HL.out]; rfl, (Below.refl _ _).alloc (Nat.le_refl _) _⟩

set_option maxRecDepth 100000 in
set_option maxHeartbeats 1000000 in
theorem shape_2 (a : Int) (ha : 0 ≤ a) (hb : a ≤ 255) (h0 : ¬ (a < 128)) (h1 : ¬ (a < 194)) (h2 : a < 224) (w : World) : Calls Try.prog 21 #[.int .u8 a] w (ShapePost w a) := by
  have HL : Hid (lead a = some ⟨a - 192, 1, 128, 191⟩) := Lib.hid (by unfold lead; rw [if_neg h0, if_neg h1, if_pos h2])
  have hbits : bits .and .i64 a 31 = a - 192 := by rw [i64_and31 a ha (by omega)]; omega
  have d0 : ¬ (a < 128) := by omega
  have d1 : ¬ (a < 194) := by omega
  have d2 : a < 224 := by omega
  clear h0 h1 h2
  go_enter Try.func21, Try.ntmps21
  go_wp2
  exact bodyPost_ret (v := .tuple #[.agg #[.int .i64 (a - 192), .int .i64 1, .int .u8 128, .int .u8 191], .bool true]) (by simp [results, Try.results21, go_sem]) rfl ⟨by rw [HL.out]; rfl, (Below.refl _ _).alloc (Nat.le_refl _) _⟩

set_option maxRecDepth 100000 in
set_option maxHeartbeats 1000000 in
theorem shape_3 (a : Int) (ha : 0 ≤ a) (hb : a ≤ 255) (h0 : ¬ (a < 128)) (h1 : ¬ (a < 194)) (h2 : ¬ (a < 224)) (h3 : a = 224) (w : World) : Calls Try.prog 21 #[.int .u8 a] w (ShapePost w a) := by
  have HL : Hid (lead a = some ⟨a - 224, 2, 160, 191⟩) := Lib.hid (by unfold lead; rw [if_neg h0, if_neg h1, if_neg h2, if_pos h3])
  have hbits : bits .and .i64 a 15 = a - 224 := by rw [i64_and15 a ha (by omega)]; omega
  have d0 : ¬ (a < 128) := by omega
  have d1 : ¬ (a < 194) := by omega
  have d2 : ¬ (a < 224) := by omega
  have d3 : (a == 224) = true := by simp; omega
  clear h0 h1 h2 h3
  go_enter Try.func21, Try.ntmps21
  go_wp2
  exact bodyPost_ret (v := .tuple #[.agg #[.int .i64 (a - 224), .int .i64 2, .int .u8 160, .int .u8 191], .bool true]) (by simp [results, Try.results21, go_sem]) rfl ⟨by rw [HL.out]; rfl, (Below.refl _ _).alloc (Nat.le_refl _) _⟩

set_option maxRecDepth 100000 in
set_option maxHeartbeats 1000000 in
theorem shape_4 (a : Int) (ha : 0 ≤ a) (hb : a ≤ 255) (h0 : ¬ (a < 128)) (h1 : ¬ (a < 194)) (h2 : ¬ (a < 224)) (h3 : ¬ (a = 224)) (h4 : a = 237) (w : World) : Calls Try.prog 21 #[.int .u8 a] w (ShapePost w a) := by
  have HL : Hid (lead a = some ⟨a - 224, 2, 128, 159⟩) := Lib.hid (by unfold lead; rw [if_neg h0, if_neg h1, if_neg h2, if_neg h3, if_pos h4])
  have hbits : bits .and .i64 a 15 = a - 224 := by rw [i64_and15 a ha (by omega)]; omega
  have d0 : ¬ (a < 128) := by omega
  have d1 : ¬ (a < 194) := by omega
  have d2 : ¬ (a < 224) := by omega
  have d3 : (a == 224) = false := by simp; omega
  have d4 : (a == 237) = true := by simp; omega
  clear h0 h1 h2 h3 h4
  go_enter Try.func21, Try.ntmps21
  go_wp2
  exact bodyPost_ret (v := .tuple #[.agg #[.int .i64 (a - 224), .int .i64 2, .int .u8 128, .int .u8 159], .bool true]) (by simp [results, Try.results21, go_sem]) rfl ⟨by rw [HL.out]; rfl, (Below.refl _ _).alloc (Nat.le_refl _) _⟩

set_option maxRecDepth 100000 in
set_option maxHeartbeats 1000000 in
theorem shape_5 (a : Int) (ha : 0 ≤ a) (hb : a ≤ 255) (h0 : ¬ (a < 128)) (h1 : ¬ (a < 194)) (h2 : ¬ (a < 224)) (h3 : ¬ (a = 224)) (h4 : ¬ (a = 237)) (h5 : a < 240) (w : World) : Calls Try.prog 21 #[.int .u8 a] w (ShapePost w a) := by
  have HL : Hid (lead a = some ⟨a - 224, 2, 128, 191⟩) := Lib.hid (by unfold lead; rw [if_neg h0, if_neg h1, if_neg h2, if_neg h3, if_neg h4, if_pos h5])
  have hbits : bits .and .i64 a 15 = a - 224 := by rw [i64_and15 a ha (by omega)]; omega
  have d0 : ¬ (a < 128) := by omega
  have d1 : ¬ (a < 194) := by omega
  have d2 : ¬ (a < 224) := by omega
  have d3 : (a == 224) = false := by simp; omega
  have d4 : (a == 237) = false := by simp; omega
  have d5 : a < 240 := by omega
  clear h0 h1 h2 h3 h4 h5
  go_enter Try.func21, Try.ntmps21
  go_wp2
  exact bodyPost_ret (v := .tuple #[.agg #[.int .i64 (a - 224), .int .i64 2, .int .u8 128, .int .u8 191], .bool true]) (by simp [results, Try.results21, go_sem]) rfl ⟨by rw [HL.out]; rfl, (Below.refl _ _).alloc (Nat.le_refl _) _⟩

set_option maxRecDepth 100000 in
set_option maxHeartbeats 1000000 in
theorem shape_6 (a : Int) (ha : 0 ≤ a) (hb : a ≤ 255) (h0 : ¬ (a < 128)) (h1 : ¬ (a < 194)) (h2 : ¬ (a < 224)) (h3 : ¬ (a = 224)) (h4 : ¬ (a = 237)) (h5 : ¬ (a < 240)) (h6 : a = 240) (w : World) : Calls Try.prog 21 #[.int .u8 a] w (ShapePost w a) := by
  have HL : Hid (lead a = some ⟨a - 240, 3, 144, 191⟩) := Lib.hid (by unfold lead; rw [if_neg h0, if_neg h1, if_neg h2, if_neg h3, if_neg h4, if_neg h5, if_pos h6])
  have hbits : bits .and .i64 a 7 = a - 240 := by rw [i64_and7 a ha (by omega)]; omega
  have d0 : ¬ (a < 128) := by omega
  have d1 : ¬ (a < 194) := by omega
  have d2 : ¬ (a < 224) := by omega
  have d3 : (a == 224) = false := by simp; omega
  have d4 : (a == 237) = false := by simp; omega
  have d5 : ¬ (a < 240) := by omega
  have d6 : (a == 240) = true := by simp; omega
  clear h0 h1 h2 h3 h4 h5 h6
  go_enter Try.func21, Try.ntmps21
  go_wp2
  exact bodyPost_ret (v := .tuple #[.agg #[.int .i64 (a - 240), .int .i64 3, .int .u8 144, .int .u8 191], .bool true]) (by simp [results, Try.results21, go_sem]) rfl ⟨by rw [HL.out]; rfl, (Below.refl _ _).alloc (Nat.le_refl _) _⟩

set_option maxRecDepth 100000 in
set_option maxHeartbeats 1000000 in
theorem shape_7 (a : Int) (ha : 0 ≤ a) (hb : a ≤ 255) (h0 : ¬ (a < 128)) (h1 : ¬ (a < 194)) (h2 : ¬ (a < 224)) (h3 : ¬ (a = 224)) (h4 : ¬ (a = 237)) (h5 : ¬ (a < 240)) (h6 : ¬ (a = 240)) (h7 : a < 244) (w : World) : Calls Try.prog 21 #[.int .u8 a] w (ShapePost w a) := by
  have HL : Hid (lead a = some ⟨a - 240, 3, 128, 191⟩) := Lib.hid (by unfold lead; rw [if_neg h0, if_neg h1, if_neg h2, if_neg h3, if_neg h4, if_neg h5, if_neg h6, if_pos h7])
  have hbits : bits .and .i64 a 7 = a - 240 := by rw [i64_and7 a ha (by omega)]; omega
  have d0 : ¬ (a < 128) := by omega
  have d1 : ¬ (a < 194) := by omega
  have d2 : ¬ (a < 224) := by omega
  have d3 : (a == 224) = false := by simp; omega
  have d4 : (a == 237) = false := by simp; omega
  have d5 : ¬ (a < 240) := by omega
  have d6 : (a == 240) = false := by simp; omega
  have d7 : a < 244 := by omega
  clear h0 h1 h2 h3 h4 h5 h6 h7
  go_enter Try.func21, Try.ntmps21
  go_wp2
  exact bodyPost_ret (v := .tuple #[.agg #[.int .i64 (a - 240), .int .i64 3, .int .u8 128, .int .u8 191], .bool true]) (by simp [results, Try.results21, go_sem]) rfl ⟨by rw [HL.out]; rfl, (Below.refl _ _).alloc (Nat.le_refl _) _⟩

set_option maxRecDepth 100000 in
set_option maxHeartbeats 1000000 in
theorem shape_8 (a : Int) (ha : 0 ≤ a) (hb : a ≤ 255) (h0 : ¬ (a < 128)) (h1 : ¬ (a < 194)) (h2 : ¬ (a < 224)) (h3 : ¬ (a = 224)) (h4 : ¬ (a = 237)) (h5 : ¬ (a < 240)) (h6 : ¬ (a = 240)) (h7 : ¬ (a < 244)) (h8 : a = 244) (w : World) : Calls Try.prog 21 #[.int .u8 a] w (ShapePost w a) := by
  have HL : Hid (lead a = some ⟨a - 240, 3, 128, 143⟩) := Lib.hid (by unfold lead; rw [if_neg h0, if_neg h1, if_neg h2, if_neg h3, if_neg h4, if_neg h5, if_neg h6, if_neg h7, if_pos h8])
  have hbits : bits .and .i64 a 7 = a - 240 := by rw [i64_and7 a ha (by omega)]; omega
  have d0 : ¬ (a < 128) := by omega
  have d1 : ¬ (a < 194) := by omega
  have d2 : ¬ (a < 224) := by omega
  have d3 : (a == 224) = false := by simp; omega
  have d4 : (a == 237) = false := by simp; omega
  have d5 : ¬ (a < 240) := by omega
  have d6 : (a == 240) = false := by simp; omega
  have d7 : ¬ (a < 244) := by omega
  have d8 : (a == 244) = true := by simp; omega
  clear h0 h1 h2 h3 h4 h5 h6 h7 h8
  go_enter Try.func21, Try.ntmps21
  go_wp2
  exact bodyPost_ret (v := .tuple #[.agg #[.int .i64 (a - 240), .int .i64 3, .int .u8 128, .int .u8 143], .bool true]) (by simp [results, Try.results21, go_sem]) rfl ⟨by rw [HL.out]; rfl, (Below.refl _ _).alloc (Nat.le_refl _) _⟩

set_option maxRecDepth 100000 in
set_option maxHeartbeats 1000000 in
theorem shape_9 (a : Int) (ha : 0 ≤ a) (hb : a ≤ 255) (h0 : ¬ (a < 128)) (h1 : ¬ (a < 194)) (h2 : ¬ (a < 224)) (h3 : ¬ (a = 224)) (h4 : ¬ (a = 237)) (h5 : ¬ (a < 240)) (h6 : ¬ (a = 240)) (h7 : ¬ (a < 244)) (h8 : ¬ (a = 244)) (w : World) : Calls Try.prog 21 #[.int .u8 a] w (ShapePost w a) := by
  have HL : Hid (lead a = none) := Lib.hid (by unfold lead; rw [if_neg h0, if_neg h1, if_neg h2, if_neg h3, if_neg h4, if_neg h5, if_neg h6, if_neg h7, if_neg h8])
  have d0 : ¬ (a < 128) := by omega
  have d1 : ¬ (a < 194) := by omega
  have d2 : ¬ (a < 224) := by omega
  have d3 : (a == 224) = false := by simp; omega
  have d4 : (a == 237) = false := by simp; omega
  have d5 : ¬ (a < 240) := by omega
  have d6 : (a == 240) = false := by simp; omega
  have d7 : ¬ (a < 244) := by omega
  have d8 : (a == 244) = false := by simp; omega
  clear h0 h1 h2 h3 h4 h5 h6 h7 h8
  go_enter Try.func21, Try.ntmps21
  go_wp2
  exact bodyPost_ret (v := .tuple #[.agg #[.int .i64 0, .int .i64 0, .int .u8 0, .int .u8 0], .bool false]) (by simp [results, Try.results21, go_sem]) rfl ⟨by rw [HL.out]; rfl, (Below.refl _ _).alloc (Nat.le_refl _) _⟩

theorem shape_c (a : Int) (ha : 0 ≤ a) (hb : a ≤ 255) (w : World) : Calls Try.prog 21 #[.int .u8 a] w (ShapePost w a) := by
  by_cases h0 : a < 128
  · exact shape_0 a ha hb h0 w
  by_cases h1 : a < 194
  · exact shape_1 a ha hb h0 h1 w
  by_cases h2 : a < 224
  · exact shape_2 a ha hb h0 h1 h2 w
  by_cases h3 : a = 224
  · exact shape_3 a ha hb h0 h1 h2 h3 w
  by_cases h4 : a = 237
  · exact shape_4 a ha hb h0 h1 h2 h3 h4 w
  by_cases h5 : a < 240
  · exact shape_5 a ha hb h0 h1 h2 h3 h4 h5 w
  by_cases h6 : a = 240
  · exact shape_6 a ha hb h0 h1 h2 h3 h4 h5 h6 w
  by_cases h7 : a < 244
  · exact shape_7 a ha hb h0 h1 h2 h3 h4 h5 h6 h7 w
  by_cases h8 : a = 244
  · exact shape_8 a ha hb h0 h1 h2 h3 h4 h5 h6 h7 h8 w
  exact shape_9 a ha hb h0 h1 h2 h3 h4 h5 h6 h7 h8 w

set_option maxRecDepth 100000 in
set_option maxHeartbeats 1000000 in
theorem takes_first (s : Shape) (c : Int) (w : World) : Calls Try.prog 22 #[aggS s, .int .i64 1, .int .u8 c] w fun e w' => e = .returned (.bool (decide (s.lo ≤ c ∧ c ≤ s.hi))) ∧ Below w.heap.size w w' := by
  obtain ⟨bi, mo, lo, hi⟩ := s
  unfold aggS
  dsimp only
  by_cases h1 : lo ≤ c
  · by_cases h2 : c ≤ hi
    · rw [decide_eq_true (show lo ≤ c ∧ c ≤ hi from ⟨h1, h2⟩)]
      go_enter Try.func22, Try.ntmps22
      go_wp2
      go_ret
      exact ⟨rfl, (Below.refl _ _).alloc (Nat.le_refl _) _⟩
    · rw [decide_eq_false (show ¬ (lo ≤ c ∧ c ≤ hi) from fun h => h2 h.2)]
      go_enter Try.func22, Try.ntmps22
      go_wp2
      go_ret
      exact ⟨rfl, (Below.refl _ _).alloc (Nat.le_refl _) _⟩
  · rw [decide_eq_false (show ¬ (lo ≤ c ∧ c ≤ hi) from fun h => h1 h.1)]
    go_enter Try.func22, Try.ntmps22
    go_wp2
    go_ret
    exact ⟨rfl, (Below.refl _ _).alloc (Nat.le_refl _) _⟩
set_option maxRecDepth 100000 in
set_option maxHeartbeats 1000000 in
theorem takes_later (s : Shape) (k c : Int) (hk : (k == 1) = false) (w : World) : Calls Try.prog 22 #[aggS s, .int .i64 k, .int .u8 c] w fun e w' => e = .returned (.bool (decide (128 ≤ c ∧ c ≤ 191))) ∧ Below w.heap.size w w' := by
  obtain ⟨bi, mo, lo, hi⟩ := s
  unfold aggS
  dsimp only
  by_cases h1 : 128 ≤ c
  · by_cases h2 : c ≤ 191
    · rw [decide_eq_true (show 128 ≤ c ∧ c ≤ 191 from ⟨h1, h2⟩)]
      go_enter Try.func22, Try.ntmps22
      go_wp2
      go_ret
      exact ⟨rfl, (Below.refl _ _).alloc (Nat.le_refl _) _⟩
    · rw [decide_eq_false (show ¬ (128 ≤ c ∧ c ≤ 191) from fun h => h2 h.2)]
      go_enter Try.func22, Try.ntmps22
      go_wp2
      go_ret
      exact ⟨rfl, (Below.refl _ _).alloc (Nat.le_refl _) _⟩
  · rw [decide_eq_false (show ¬ (128 ≤ c ∧ c ≤ 191) from fun h => h1 h.1)]
    go_enter Try.func22, Try.ntmps22
    go_wp2
    go_ret
    exact ⟨rfl, (Below.refl _ _).alloc (Nat.le_refl _) _⟩
end Go.Proofs.Ytofmkhkpgpkboaa
