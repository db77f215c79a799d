/- UShape, UDec, UChars, in one text. -/
import Derived.Test.YtahgljglleeloaaGreatDoorUA
import Derived.StillTailTactics
import Derived.Deep.LoopGhost
/- utf.shapeOf and takes: what a lead byte says. -/
namespace Go.Proofs.YtahgljglleeloaaGreatDoor.U
open Go.RowKit Go.Shelf UtfM

def aggS (s : Shape) : Value := .agg #[.int .i64 s.bits, .int .i64 s.more, .int .u8 s.lo, .int .u8 s.hi]
def shapeV : Option Shape → Value
  | some s => .tuple #[aggS s, .bool true]
  | none => .tuple #[.agg #[.int .i64 0, .int .i64 0, .int .u8 0, .int .u8 0], .bool false]
def ShapePost (w : World) (a : Int) (e : Ending) (w' : World) : Prop := e = .returned (shapeV (lead a)) ∧ Below w.heap.size w w'
theorem i64_and31 (x : Int) (h₀ : 0 ≤ x) (h₁ : x < 2147483648) : bits .and .i64 x 31 = x % 32 := bits_mask .i64 31 (by decide) wraps_i64 5 (by decide) x h₀ h₁
theorem i64_and15 (x : Int) (h₀ : 0 ≤ x) (h₁ : x < 2147483648) : bits .and .i64 x 15 = x % 16 := bits_mask .i64 31 (by decide) wraps_i64 4 (by decide) x h₀ h₁
theorem i64_and7 (x : Int) (h₀ : 0 ≤ x) (h₁ : x < 2147483648) : bits .and .i64 x 7 = x % 8 := bits_mask .i64 31 (by decide) wraps_i64 3 (by decide) x h₀ h₁

set_option maxRecDepth 100000 in
set_option maxHeartbeats 1000000 in
theorem shape_0 (a : Int) (ha : 0 ≤ a) (_hb : a ≤ 255) (h0 : a < 128) (w : World) : Calls Tryz.prog 33 #[.int .u8 a] w (ShapePost w a) := by
  have HL : Hid (lead a = some ⟨a, 0, 0, 0⟩) := Lib.hid (by unfold lead; rw [if_pos h0])
  have d0 : a < 128 := by omega
  clear h0
  go_enter Tryz.func33, Tryz.ntmps33
  go_wp2
  exact bodyPost_ret (v := .tuple #[.agg #[.int .i64 (a), .int .i64 0, .int .u8 0, .int .u8 0], .bool true]) (by simp [results, Tryz.results33, go_sem]) rfl ⟨by rw [HL.out]; rfl, (Below.refl _ _).alloc (Nat.le_refl _) _⟩

set_option maxRecDepth 100000 in
set_option maxHeartbeats 1000000 in
theorem shape_1 (a : Int) (ha : 0 ≤ a) (hb : a ≤ 255) (h0 : ¬ (a < 128)) (h1 : a < 194) (w : World) : Calls Tryz.prog 33 #[.int .u8 a] w (ShapePost w a) := by
  have HL : Hid (lead a = none) := Lib.hid (by unfold lead; rw [if_neg h0, if_pos h1])
  have d0 : ¬ (a < 128) := by omega
  have d1 : a < 194 := by omega
  clear h0 h1
  go_enter Tryz.func33, Tryz.ntmps33
  go_wp2
  exact bodyPost_ret (v := .tuple #[.agg #[.int .i64 0, .int .i64 0, .int .u8 0, .int .u8 0], .bool false]) (by simp [results, Tryz.results33, go_sem]) rfl ⟨by rw [HL.out]; rfl, (Below.refl _ _).alloc (Nat.le_refl _) _⟩

set_option maxRecDepth 100000 in
set_option maxHeartbeats 1000000 in
theorem shape_2 (a : Int) (ha : 0 ≤ a) (hb : a ≤ 255) (h0 : ¬ (a < 128)) (h1 : ¬ (a < 194)) (h2 : a < 224) (w : World) : Calls Tryz.prog 33 #[.int .u8 a] w (ShapePost w a) := by
  have HL : Hid (lead a = some ⟨a - 192, 1, 128, 191⟩) := Lib.hid (by unfold lead; rw [if_neg h0, if_neg h1, if_pos h2])
  have hbits : bits .and .i64 a 31 = a - 192 := by rw [i64_and31 a ha (by omega)]; omega
  have d0 : ¬ (a < 128) := by omega
  have d1 : ¬ (a < 194) := by omega
  have d2 : a < 224 := by omega
  clear h0 h1 h2
  go_enter Tryz.func33, Tryz.ntmps33
  go_wp2
  exact bodyPost_ret (v := .tuple #[.agg #[.int .i64 (a - 192), .int .i64 1, .int .u8 128, .int .u8 191], .bool true]) (by simp [results, Tryz.results33, go_sem]) rfl ⟨by rw [HL.out]; rfl, (Below.refl _ _).alloc (Nat.le_refl _) _⟩

set_option maxRecDepth 100000 in
set_option maxHeartbeats 1000000 in
theorem shape_3 (a : Int) (ha : 0 ≤ a) (hb : a ≤ 255) (h0 : ¬ (a < 128)) (h1 : ¬ (a < 194)) (h2 : ¬ (a < 224)) (h3 : a = 224) (w : World) : Calls Tryz.prog 33 #[.int .u8 a] w (ShapePost w a) := by
  have HL : Hid (lead a = some ⟨a - 224, 2, 160, 191⟩) := Lib.hid (by unfold lead; rw [if_neg h0, if_neg h1, if_neg h2, if_pos h3])
  have hbits : bits .and .i64 a 15 = a - 224 := by rw [i64_and15 a ha (by omega)]; omega
  have d0 : ¬ (a < 128) := by omega
  have d1 : ¬ (a < 194) := by omega
  have d2 : ¬ (a < 224) := by omega
  have d3 : (a == 224) = true := by simp; omega
  clear h0 h1 h2 h3
  go_enter Tryz.func33, Tryz.ntmps33
  go_wp2
  exact bodyPost_ret (v := .tuple #[.agg #[.int .i64 (a - 224), .int .i64 2, .int .u8 160, .int .u8 191], .bool true]) (by simp [results, Tryz.results33, go_sem]) rfl ⟨by rw [HL.out]; rfl, (Below.refl _ _).alloc (Nat.le_refl _) _⟩

set_option maxRecDepth 100000 in
set_option maxHeartbeats 1000000 in
theorem shape_4 (a : Int) (ha : 0 ≤ a) (hb : a ≤ 255) (h0 : ¬ (a < 128)) (h1 : ¬ (a < 194)) (h2 : ¬ (a < 224)) (h3 : ¬ (a = 224)) (h4 : a = 237) (w : World) : Calls Tryz.prog 33 #[.int .u8 a] w (ShapePost w a) := by
  have HL : Hid (lead a = some ⟨a - 224, 2, 128, 159⟩) := Lib.hid (by unfold lead; rw [if_neg h0, if_neg h1, if_neg h2, if_neg h3, if_pos h4])
  have hbits : bits .and .i64 a 15 = a - 224 := by rw [i64_and15 a ha (by omega)]; omega
  have d0 : ¬ (a < 128) := by omega
  have d1 : ¬ (a < 194) := by omega
  have d2 : ¬ (a < 224) := by omega
  have d3 : (a == 224) = false := by simp; omega
  have d4 : (a == 237) = true := by simp; omega
  clear h0 h1 h2 h3 h4
  go_enter Tryz.func33, Tryz.ntmps33
  go_wp2
  exact bodyPost_ret (v := .tuple #[.agg #[.int .i64 (a - 224), .int .i64 2, .int .u8 128, .int .u8 159], .bool true]) (by simp [results, Tryz.results33, go_sem]) rfl ⟨by rw [HL.out]; rfl, (Below.refl _ _).alloc (Nat.le_refl _) _⟩

set_option maxRecDepth 100000 in
set_option maxHeartbeats 1000000 in
theorem shape_5 (a : Int) (ha : 0 ≤ a) (hb : a ≤ 255) (h0 : ¬ (a < 128)) (h1 : ¬ (a < 194)) (h2 : ¬ (a < 224)) (h3 : ¬ (a = 224)) (h4 : ¬ (a = 237)) (h5 : a < 240) (w : World) : Calls Tryz.prog 33 #[.int .u8 a] w (ShapePost w a) := by
  have HL : Hid (lead a = some ⟨a - 224, 2, 128, 191⟩) := Lib.hid (by unfold lead; rw [if_neg h0, if_neg h1, if_neg h2, if_neg h3, if_neg h4, if_pos h5])
  have hbits : bits .and .i64 a 15 = a - 224 := by rw [i64_and15 a ha (by omega)]; omega
  have d0 : ¬ (a < 128) := by omega
  have d1 : ¬ (a < 194) := by omega
  have d2 : ¬ (a < 224) := by omega
  have d3 : (a == 224) = false := by simp; omega
  have d4 : (a == 237) = false := by simp; omega
  have d5 : a < 240 := by omega
  clear h0 h1 h2 h3 h4 h5
  go_enter Tryz.func33, Tryz.ntmps33
  go_wp2
  exact bodyPost_ret (v := .tuple #[.agg #[.int .i64 (a - 224), .int .i64 2, .int .u8 128, .int .u8 191], .bool true]) (by simp [results, Tryz.results33, go_sem]) rfl ⟨by rw [HL.out]; rfl, (Below.refl _ _).alloc (Nat.le_refl _) _⟩

set_option maxRecDepth 100000 in
set_option maxHeartbeats 1000000 in
theorem shape_6 (a : Int) (ha : 0 ≤ a) (hb : a ≤ 255) (h0 : ¬ (a < 128)) (h1 : ¬ (a < 194)) (h2 : ¬ (a < 224)) (h3 : ¬ (a = 224)) (h4 : ¬ (a = 237)) (h5 : ¬ (a < 240)) (h6 : a = 240) (w : World) : Calls Tryz.prog 33 #[.int .u8 a] w (ShapePost w a) := by
  have HL : Hid (lead a = some ⟨a - 240, 3, 144, 191⟩) := Lib.hid (by unfold lead; rw [if_neg h0, if_neg h1, if_neg h2, if_neg h3, if_neg h4, if_neg h5, if_pos h6])
  have hbits : bits .and .i64 a 7 = a - 240 := by rw [i64_and7 a ha (by omega)]; omega
  have d0 : ¬ (a < 128) := by omega
  have d1 : ¬ (a < 194) := by omega
  have d2 : ¬ (a < 224) := by omega
  have d3 : (a == 224) = false := by simp; omega
  have d4 : (a == 237) = false := by simp; omega
  have d5 : ¬ (a < 240) := by omega
  have d6 : (a == 240) = true := by simp; omega
  clear h0 h1 h2 h3 h4 h5 h6
  go_enter Tryz.func33, Tryz.ntmps33
  go_wp2
  exact bodyPost_ret (v := .tuple #[.agg #[.int .i64 (a - 240), .int .i64 3, .int .u8 144, .int .u8 191], .bool true]) (by simp [results, Tryz.results33, go_sem]) rfl ⟨by rw [HL.out]; rfl, (Below.refl _ _).alloc (Nat.le_refl _) _⟩

set_option maxRecDepth 100000 in
set_option maxHeartbeats 1000000 in
theorem shape_7 (a : Int) (ha : 0 ≤ a) (hb : a ≤ 255) (h0 : ¬ (a < 128)) (h1 : ¬ (a < 194)) (h2 : ¬ (a < 224)) (h3 : ¬ (a = 224)) (h4 : ¬ (a = 237)) (h5 : ¬ (a < 240)) (h6 : ¬ (a = 240)) (h7 : a < 244) (w : World) : Calls Tryz.prog 33 #[.int .u8 a] w (ShapePost w a) := by
  have HL : Hid (lead a = some ⟨a - 240, 3, 128, 191⟩) := Lib.hid (by unfold lead; rw [if_neg h0, if_neg h1, if_neg h2, if_neg h3, if_neg h4, if_neg h5, if_neg h6, if_pos h7])
  have hbits : bits .and .i64 a 7 = a - 240 := by rw [i64_and7 a ha (by omega)]; omega
  have d0 : ¬ (a < 128) := by omega
  have d1 : ¬ (a < 194) := by omega
  have d2 : ¬ (a < 224) := by omega
  have d3 : (a == 224) = false := by simp; omega
  have d4 : (a == 237) = false := by simp; omega
  have d5 : ¬ (a < 240) := by omega
  have d6 : (a == 240) = false := by simp; omega
  have d7 : a < 244 := by omega
  clear h0 h1 h2 h3 h4 h5 h6 h7
  go_enter Tryz.func33, Tryz.ntmps33
  go_wp2
  exact bodyPost_ret (v := .tuple #[.agg #[.int .i64 (a - 240), .int .i64 3, .int .u8 128, .int .u8 191], .bool true]) (by simp [results, Tryz.results33, go_sem]) rfl ⟨by rw [HL.out]; rfl, (Below.refl _ _).alloc (Nat.le_refl _) _⟩

set_option maxRecDepth 100000 in
set_option maxHeartbeats 1000000 in
theorem shape_8 (a : Int) (ha : 0 ≤ a) (hb : a ≤ 255) (h0 : ¬ (a < 128)) (h1 : ¬ (a < 194)) (h2 : ¬ (a < 224)) (h3 : ¬ (a = 224)) (h4 : ¬ (a = 237)) (h5 : ¬ (a < 240)) (h6 : ¬ (a = 240)) (h7 : ¬ (a < 244)) (h8 : a = 244) (w : World) : Calls Tryz.prog 33 #[.int .u8 a] w (ShapePost w a) := by
  have HL : Hid (lead a = some ⟨a - 240, 3, 128, 143⟩) := Lib.hid (by unfold lead; rw [if_neg h0, if_neg h1, if_neg h2, if_neg h3, if_neg h4, if_neg h5, if_neg h6, if_neg h7, if_pos h8])
  have hbits : bits .and .i64 a 7 = a - 240 := by rw [i64_and7 a ha (by omega)]; omega
  have d0 : ¬ (a < 128) := by omega
  have d1 : ¬ (a < 194) := by omega
  have d2 : ¬ (a < 224) := by omega
  have d3 : (a == 224) = false := by simp; omega
  have d4 : (a == 237) = false := by simp; omega
  have d5 : ¬ (a < 240) := by omega
  have d6 : (a == 240) = false := by simp; omega
  have d7 : ¬ (a < 244) := by omega
  have d8 : (a == 244) = true := by simp; omega
  clear h0 h1 h2 h3 h4 h5 h6 h7 h8
  go_enter Tryz.func33, Tryz.ntmps33
  go_wp2
  exact bodyPost_ret (v := .tuple #[.agg #[.int .i64 (a - 240), .int .i64 3, .int .u8 128, .int .u8 143], .bool true]) (by simp [results, Tryz.results33, go_sem]) rfl ⟨by rw [HL.out]; rfl, (Below.refl _ _).alloc (Nat.le_refl _) _⟩

set_option maxRecDepth 100000 in
set_option maxHeartbeats 1000000 in
theorem shape_9 (a : Int) (ha : 0 ≤ a) (hb : a ≤ 255) (h0 : ¬ (a < 128)) (h1 : ¬ (a < 194)) (h2 : ¬ (a < 224)) (h3 : ¬ (a = 224)) (h4 : ¬ (a = 237)) (h5 : ¬ (a < 240)) (h6 : ¬ (a = 240)) (h7 : ¬ (a < 244)) (h8 : ¬ (a = 244)) (w : World) : Calls Tryz.prog 33 #[.int .u8 a] w (ShapePost w a) := by
  have HL : Hid (lead a = none) := Lib.hid (by unfold lead; rw [if_neg h0, if_neg h1, if_neg h2, if_neg h3, if_neg h4, if_neg h5, if_neg h6, if_neg h7, if_neg h8])
  have d0 : ¬ (a < 128) := by omega
  have d1 : ¬ (a < 194) := by omega
  have d2 : ¬ (a < 224) := by omega
  have d3 : (a == 224) = false := by simp; omega
  have d4 : (a == 237) = false := by simp; omega
  have d5 : ¬ (a < 240) := by omega
  have d6 : (a == 240) = false := by simp; omega
  have d7 : ¬ (a < 244) := by omega
  have d8 : (a == 244) = false := by simp; omega
  clear h0 h1 h2 h3 h4 h5 h6 h7 h8
  go_enter Tryz.func33, Tryz.ntmps33
  go_wp2
  exact bodyPost_ret (v := .tuple #[.agg #[.int .i64 0, .int .i64 0, .int .u8 0, .int .u8 0], .bool false]) (by simp [results, Tryz.results33, go_sem]) rfl ⟨by rw [HL.out]; rfl, (Below.refl _ _).alloc (Nat.le_refl _) _⟩

theorem shape_c (a : Int) (ha : 0 ≤ a) (hb : a ≤ 255) (w : World) : Calls Tryz.prog 33 #[.int .u8 a] w (ShapePost w a) := by
  by_cases h0 : a < 128
  · exact shape_0 a ha hb h0 w
  by_cases h1 : a < 194
  · exact shape_1 a ha hb h0 h1 w
  by_cases h2 : a < 224
  · exact shape_2 a ha hb h0 h1 h2 w
  by_cases h3 : a = 224
  · exact shape_3 a ha hb h0 h1 h2 h3 w
  by_cases h4 : a = 237
  · exact shape_4 a ha hb h0 h1 h2 h3 h4 w
  by_cases h5 : a < 240
  · exact shape_5 a ha hb h0 h1 h2 h3 h4 h5 w
  by_cases h6 : a = 240
  · exact shape_6 a ha hb h0 h1 h2 h3 h4 h5 h6 w
  by_cases h7 : a < 244
  · exact shape_7 a ha hb h0 h1 h2 h3 h4 h5 h6 h7 w
  by_cases h8 : a = 244
  · exact shape_8 a ha hb h0 h1 h2 h3 h4 h5 h6 h7 h8 w
  exact shape_9 a ha hb h0 h1 h2 h3 h4 h5 h6 h7 h8 w

set_option maxRecDepth 100000 in
set_option maxHeartbeats 1000000 in
theorem takes_first (s : Shape) (c : Int) (w : World) : Calls Tryz.prog 34 #[aggS s, .int .i64 1, .int .u8 c] w fun e w' => e = .returned (.bool (decide (s.lo ≤ c ∧ c ≤ s.hi))) ∧ Below w.heap.size w w' := by
  obtain ⟨bi, mo, lo, hi⟩ := s
  unfold aggS
  dsimp only
  by_cases h1 : lo ≤ c
  · by_cases h2 : c ≤ hi
    · rw [decide_eq_true (show lo ≤ c ∧ c ≤ hi from ⟨h1, h2⟩)]
      go_enter Tryz.func34, Tryz.ntmps34
      go_wp2
      go_ret
      exact ⟨rfl, (Below.refl _ _).alloc (Nat.le_refl _) _⟩
    · rw [decide_eq_false (show ¬ (lo ≤ c ∧ c ≤ hi) from fun h => h2 h.2)]
      go_enter Tryz.func34, Tryz.ntmps34
      go_wp2
      go_ret
      exact ⟨rfl, (Below.refl _ _).alloc (Nat.le_refl _) _⟩
  · rw [decide_eq_false (show ¬ (lo ≤ c ∧ c ≤ hi) from fun h => h1 h.1)]
    go_enter Tryz.func34, Tryz.ntmps34
    go_wp2
    go_ret
    exact ⟨rfl, (Below.refl _ _).alloc (Nat.le_refl _) _⟩
set_option maxRecDepth 100000 in
set_option maxHeartbeats 1000000 in
theorem takes_later (s : Shape) (k c : Int) (hk : (k == 1) = false) (w : World) : Calls Tryz.prog 34 #[aggS s, .int .i64 k, .int .u8 c] w fun e w' => e = .returned (.bool (decide (128 ≤ c ∧ c ≤ 191))) ∧ Below w.heap.size w w' := by
  obtain ⟨bi, mo, lo, hi⟩ := s
  unfold aggS
  dsimp only
  by_cases h1 : 128 ≤ c
  · by_cases h2 : c ≤ 191
    · rw [decide_eq_true (show 128 ≤ c ∧ c ≤ 191 from ⟨h1, h2⟩)]
      go_enter Tryz.func34, Tryz.ntmps34
      go_wp2
      go_ret
      exact ⟨rfl, (Below.refl _ _).alloc (Nat.le_refl _) _⟩
    · rw [decide_eq_false (show ¬ (128 ≤ c ∧ c ≤ 191) from fun h => h2 h.2)]
      go_enter Tryz.func34, Tryz.ntmps34
      go_wp2
      go_ret
      exact ⟨rfl, (Below.refl _ _).alloc (Nat.le_refl _) _⟩
  · rw [decide_eq_false (show ¬ (128 ≤ c ∧ c ≤ 191) from fun h => h1 h.1)]
    go_enter Tryz.func34, Tryz.ntmps34
    go_wp2
    go_ret
    exact ⟨rfl, (Below.refl _ _).alloc (Nat.le_refl _) _⟩
end Go.Proofs.YtahgljglleeloaaGreatDoor.U

/- utf.Decode: the first char of bytes. -/
namespace Go.Proofs.YtahgljglleeloaaGreatDoor.U
open Go.RowKit Go.Shelf UtfM

def decV (l : List Int) : Value := .tuple #[.int .i64 (dec l).1, .int .i64 ((dec l).2 : Int)]
def DecPost (w : World) (l : List Int) (e : Ending) (w' : World) : Prop := e = .returned (decV l) ∧ Below w.heap.size w w'
/-- Where the loop over the bytes behind the lead one stands. -/
def DecAt (l : List Int) (s : Shape) (k : Nat) (r : Int) : Prop :=
  dec l = goOn (s.more - k) (if k = 0 then s.lo else 128) (if k = 0 then s.hi else 191) r (k + 1) (l.drop (k + 1)) ∧ 0 ≤ r ∧ r < 128 * 64 ^ k
theorem DecAt.start {a : Int} {t : List Int} {s : Shape} (h : lead a = some s) (ha : 0 ≤ a) : DecAt (a :: t) s 0 s.bits := by
  refine ⟨by rw [dec_some h]; simp, (lead_in h ha).1, ?_⟩
  have := (lead_in h ha).2.1
  simp; omega
theorem DecAt.done {l : List Int} {s : Shape} {k : Nat} {r : Int} (h : DecAt l s k r) (hk : k = s.more) : dec l = (r, k + 1) := by
  rw [h.1, hk, Nat.sub_self, goOn_zero]
theorem DecAt.short {l : List Int} {s : Shape} {k : Nat} {r : Int} (h : DecAt l s k r) (hk : k < s.more) (hl : l.length = k + 1) : dec l = (-1, k + 1) := by
  obtain ⟨m, hm⟩ : ∃ m, s.more - k = m + 1 := ⟨s.more - k - 1, by omega⟩
  rw [h.1, hm, show l.drop (k + 1) = [] from List.drop_eq_nil_of_le (by omega), goOn_end]
theorem drop_cons {l : List Int} {k : Nat} (h : k < l.length) : l.drop k = l[k] :: l.drop (k + 1) := by
  rw [← List.getElem_cons_drop h]
theorem DecAt.bad {l : List Int} {s : Shape} {k : Nat} {r : Int} (h : DecAt l s k r) (hk : k < s.more) (hl : k + 1 < l.length) (hc : ¬ ((if k = 0 then s.lo else 128) ≤ l[k + 1] ∧ l[k + 1] ≤ (if k = 0 then s.hi else 191))) : dec l = (-1, k + 1) := by
  obtain ⟨m, hm⟩ : ∃ m, s.more - k = m + 1 := ⟨s.more - k - 1, by omega⟩
  rw [h.1, hm, drop_cons hl, goOn_no (by omega)]
theorem DecAt.next {l : List Int} {s : Shape} {k : Nat} {r : Int} (h : DecAt l s k r) (hk : k < s.more) (hl : k + 1 < l.length) (hc : (if k = 0 then s.lo else 128) ≤ l[k + 1] ∧ l[k + 1] ≤ (if k = 0 then s.hi else 191)) (h8 : 128 ≤ l[k + 1] ∧ l[k + 1] ≤ 191) : DecAt l s (k + 1) (r * 64 + (l[k + 1] - 128)) := by
  obtain ⟨m, hm⟩ : ∃ m, s.more - k = m + 1 := ⟨s.more - k - 1, by omega⟩
  refine ⟨?_, ?_, ?_⟩
  · rw [h.1, hm, drop_cons hl, goOn_yes hc.1 hc.2, show s.more - (k + 1) = m from by omega]; simp
  · have := h.2.1; omega
  · have := h.2.2; rw [Int.pow_succ]; omega

theorem dec_shut {w w' : World} {l : List Int} {r m : Int} {n : Nat} (h : dec l = (r, n)) (hm : m = (n : Int)) (hb : Below w.heap.size w w') : DecPost w l (.returned (.tuple #[.int .i64 r, .int .i64 m])) w' := by
  subst hm
  refine ⟨?_, hb⟩
  rw [decV, h]
theorem below_drewN {n₀ : Nat} {w w' : World} (hb : Below n₀ w w') (k : Nat) : Below n₀ w (w'.drewN k) := ⟨hb.os, hb.tape, hb.output, hb.size, hb.block⟩
/-- Whether a byte may come at the place behind k others. -/
def takeB (s : Shape) (k : Nat) (c : Int) : Bool := decide ((if k = 0 then s.lo else 128) ≤ c ∧ c ≤ (if k = 0 then s.hi else 191))
theorem takes_c (s : Shape) (k : Nat) (c : Int) (w : World) : Calls Tryz.prog 34 #[.agg #[.int .i64 s.bits, .int .i64 s.more, .int .u8 s.lo, .int .u8 s.hi], .int .i64 ((k : Int) + 1), .int .u8 c] w fun e w' => e = .returned (.bool (takeB s k c)) ∧ Below w.heap.size w w' := by
  by_cases hk : k = 0
  · subst hk
    have := takes_first s c w
    simpa [takeB, aggS] using this
  · have := takes_later s ((k : Int) + 1) c (by rw [beq_eq_false_iff_ne]; omega) w
    simpa [takeB, aggS, hk] using this
theorem dec_empty (A : Option Addr) (c : Nat) (w : World) : Calls Tryz.prog 24 #[.slice A 0 c] w (DecPost w []) := by
  go_enter Tryz.func24, Tryz.ntmps24
  go_wp2
  go_ret2
  exact ⟨rfl, Below.refl _ _⟩

set_option maxRecDepth 100000 in
set_option maxHeartbeats 2000000 in
theorem dec_full (b off c : Nat) (l : List Int) (hne : 0 < l.length) (w : World) (hs : By w (some ⟨b, off, none⟩) l) : Calls Tryz.prog 24 #[.slice (some ⟨b, off, none⟩) l.length c] w (DecPost w l) := by
  obtain ⟨b', off', he, hbb, hcell⟩ := hs.2 (List.length_pos_iff.1 hne)
  cases he
  have h0 := hcell 0 hne
  rw [Nat.add_zero] at h0
  have ha := hs.1 l[0] (List.getElem_mem hne)
  have hlz : ((l.length : Int) == 0) = false := by rw [beq_eq_false_iff_ne]; omega
  have hlp : (0 : Int) < (l.length : Int) := by omega
  have HC := Lib.hid hcell
  have HB := Lib.hid hs.1
  obtain ⟨t, ht⟩ : ∃ t, l = l[0] :: t := ⟨l.drop 1, by rw [← drop_cons hne]; simp⟩
  have HT := Lib.hid ht
  clear hs hcell ht
  generalize l[0] = a at *
  have HA := Lib.hid ha
  clear ha
  go_enter Tryz.func24, Tryz.ntmps24
  go_wp2_with fail
  refine (shape_c a HA.out.1 HA.out.2 _).mono ?_
  rintro e w1 ⟨rfl, b1⟩
  have hz1 := b1.size
  cases hl : lead a with
  | none =>
    have HN := Lib.hid hl
    clear hl
    unfold shapeV
    go_wp2
    go_ret2
    refine ⟨?_, b1.alloc hz1 _⟩
    rw [decV, HT.out, dec_none HN.out]
    rfl
  | some s =>
    have hst := DecAt.start (t := t) hl HA.out.1
    rw [← HT.out] at hst
    have hin := lead_in hl HA.out.1
    have HST := Lib.hid hst
    have HIN := Lib.hid hin
    clear hst hin hl
    unfold shapeV aggS
    go_wp2
    have q0 : (w1.alloc (.cells #[.int .i64 s.bits, .int .i64 s.more, .int .u8 s.lo, .int .u8 s.hi] 72)).cell? ⟨w1.heap.size, 0, none⟩ = some (.int .i64 s.bits) := by go_simp
    have q1 : (w1.alloc (.cells #[.int .i64 s.bits, .int .i64 s.more, .int .u8 s.lo, .int .u8 s.hi] 72)).cell? ⟨w1.heap.size, 1, none⟩ = some (.int .i64 s.more) := by go_simp
    have q2 : (w1.alloc (.cells #[.int .i64 s.bits, .int .i64 s.more, .int .u8 s.lo, .int .u8 s.hi] 72)).cell? ⟨w1.heap.size, 2, none⟩ = some (.int .u8 s.lo) := by go_simp
    have q3 : (w1.alloc (.cells #[.int .i64 s.bits, .int .i64 s.more, .int .u8 s.lo, .int .u8 s.hi] 72)).cell? ⟨w1.heap.size, 3, none⟩ = some (.int .u8 s.hi) := by go_simp
    have B1 := b1.alloc hz1 (.cells #[.int .i64 s.bits, .int .i64 s.more, .int .u8 s.lo, .int .u8 s.hi] 72)
    have hsz : (w1.alloc (.cells #[.int .i64 s.bits, .int .i64 s.more, .int .u8 s.lo, .int .u8 s.hi] 72)).heap.size = w1.heap.size + 1 := World.size_alloc _ _
    generalize w1.alloc (.cells #[.int .i64 s.bits, .int .i64 s.more, .int .u8 s.lo, .int .u8 s.hi] 72) = W1 at *
    have hsz2 : w1.heap.size < W1.heap.size := by omega
    generalize w1.heap.size = n1 at *
    have Q0 := Lib.hid q0
    have Q1 := Lib.hid q1
    have Q2 := Lib.hid q2
    have Q3 := Lib.hid q3
    have HB1 := Lib.hid B1
    clear q0 q1 q2 q3 hsz b1 B1 h0
    go_loopg [6, 25] s.more (fun g s6 s25 wx => ∃ (k : Nat) (r : Int), k + g = s.more ∧ k + 1 ≤ l.length ∧ s25 = .int .i64 k ∧ s6 = .int .i64 r ∧ Hid (DecAt l s k r) ∧ Below W1.heap.size W1 wx)
    case atStart => exact ⟨0, _, by omega, by omega, rfl, rfl, HST, Below.refl _ _⟩
    case round =>
      obtain ⟨k, r, hkg, hkl, rfl, rfl, HD, hb⟩ := hrel
      have q1 := (hb.cell (p := ⟨n1, 1, none⟩) hsz2).trans Q1.out
      have hm3 := HIN.out.2.2.1
      have hfin : Below w.heap.size w wr := HB1.out.trans (hb.mono HB1.out.size)
      have HFIN := Lib.hid hfin
      have HBB := Lib.hid hb
      clear hb hfin
      cases gk with
      | zero =>
        have hkz : ¬ ((k : Int) < (s.more : Int)) := by omega
        have hres := HD.out.done (by omega)
        have hkm : k = s.more := by omega
        have HR := Lib.hid hres
        clear hres
        go_wp2
        go_quiet (fail)
        go_wp2
        go_ret2
        exact dec_shut (m := (s.more : Int) + 1) HR.out (by omega) (below_drewN HFIN.out _)
      | succ g =>
        have hkz : (k : Int) < (s.more : Int) := by omega
        by_cases hlen : k + 1 = l.length
        · have hd : ((k : Int) + 1 == (l.length : Int)) = true := by rw [beq_iff_eq]; omega
          have hres := HD.out.short (by omega) (by omega)
          have HR := Lib.hid hres
          clear hres hlen
          go_wp2
          go_quiet (fail)
          go_wp2
          go_ret2
          exact dec_shut (m := (k : Int) + 1) HR.out (by omega) (below_drewN HFIN.out _)
        · have hd : ((k : Int) + 1 == (l.length : Int)) = false := by rw [beq_eq_false_iff_ne]; omega
          have hlt : k + 1 < l.length := by omega
          have hb := HBB.out
          have q0 := (hb.cell (p := ⟨n1, 0, none⟩) hsz2).trans Q0.out
          have q2 := (hb.cell (p := ⟨n1, 2, none⟩) hsz2).trans Q2.out
          have q3 := (hb.cell (p := ⟨n1, 3, none⟩) hsz2).trans Q3.out
          have hcb := (HFIN.out.cell (p := ⟨b, off + (k + 1), none⟩) hbb).trans (HC.out (k + 1) hlt)
          have hcb2 : Hid (w.cell? ⟨b, off + (k + 1), none⟩ = some (.int .u8 l[k + 1])) := Lib.hid (HC.out (k + 1) hlt)
          have hc8 := HB.out l[k + 1] (List.getElem_mem hlt)
          have hbad := HD.out.bad (by omega) hlt
          have hnext := HD.out.next (by omega) hlt
          have HBAD := Lib.hid hbad
          have HNX := Lib.hid hnext
          clear hbad hnext hb
          generalize l[k + 1] = ch at *
          have i0 : (0 : Int) ≤ (k : Int) + 1 := by omega
          have i1 : (k : Int) + 1 < (l.length : Int) := by omega
          have i2 : ((k : Int) + 1).toNat = k + 1 := by omega
          clear hlen
          go_wp2
          go_still_tail 11, (by kernel_rfl)
          change wpList _ _ _ _ _ wr.drew
          have hb2 : Below W1.heap.size W1 wr.drew := below_drewN HBB.out 1
          have hf2 : Below w.heap.size w wr.drew := below_drewN HFIN.out 1
          generalize wr.drew = w2 at *
          go_wp2_with fail
          refine (takes_c s k ch _).mono ?_
          rintro e w3 ⟨rfl, b3⟩
          have hb3 := hb2.trans (b3.mono hb2.size)
          have hf3 := hf2.trans (b3.mono hf2.size)
          have hcb3 := (b3.cell (p := ⟨b, off + (k + 1), none⟩) (by have := hf2.size; show b < _; omega)).trans ((hf2.cell (p := ⟨b, off + (k + 1), none⟩) hbb).trans hcb2.out)
          clear q0 q1 q2 q3 hcb hb2 hf2 b3
          cases hT : takeB s k ch with
          | false =>
            have hres := HBAD.out (by simpa [takeB] using hT)
            have HR := Lib.hid hres
            clear hres hT
            go_wp2
            go_ret2
            exact dec_shut (m := (k : Int) + 1) HR.out (by omega) hf3
          | true =>
            have hin2 : (if k = 0 then s.lo else 128) ≤ ch ∧ ch ≤ (if k = 0 then s.hi else 191) := by simpa [takeB] using hT
            have h88 : 128 ≤ ch ∧ ch ≤ 191 := by
              have hh := HIN.out.2.2.2 (by omega)
              by_cases hk0 : k = 0
              · simp only [if_pos hk0] at hin2; omega
              · simp only [if_neg hk0] at hin2; omega
            have hnx := HNX.out hin2 h88
            have HNN := Lib.hid hnx
            have hr0 := HD.out.2.1
            have hr1 : r ≤ 524287 := by
              have := HD.out.2.2
              rcases (by omega : k = 0 ∨ k = 1 ∨ k = 2) with rfl | rfl | rfl <;> simp at this <;> omega
            obtain ⟨h8a, h8b⟩ := h88
            have e1 : bits .and .u8 ch 63 = ch - 128 := by rw [u8_and63 ch (by omega) (by omega)]; omega
            have e2 : bits .or .i64 (r * 64) (ch - 128) = r * 64 + (ch - 128) := i64_or6 (r * 64) (ch - 128) (by omega) (by omega) (by omega) (by omega) (by omega)
            clear hin2 hnx hT
            go_wp2
            go_roundg g
            case measure => omega
            case rel => exact ⟨k + 1, _, by omega, by omega, by go_num, rfl, HNN, hb3⟩

theorem decode_c {W : World} {A : Option Addr} {c : Nat} {l : List Int} (hs : By W A l) : Calls Tryz.prog 24 #[.slice A l.length c] W (DecPost W l) := by
  by_cases h : l = []
  · subst h; exact dec_empty A c W
  · obtain ⟨b, off, rfl, _, _⟩ := hs.2 h
    exact dec_full b off c l (List.length_pos_iff.2 h) W hs
end Go.Proofs.YtahgljglleeloaaGreatDoor.U


/- utf.Chars: all chars of bytes. -/
namespace Go.Proofs.YtahgljglleeloaaGreatDoor.U
open Go.RowKit Go.Shelf UtfM

def encC (c : Ch) : List Value := [.int .i64 c.1, .int .i64 (c.2.1 : Int), .int .i64 (c.2.2 : Int)]
def cellsC (l : List Ch) : List Value := l.flatMap encC
theorem cellsC_append (a b : List Ch) : cellsC (a ++ b) = cellsC a ++ cellsC b := by simp [cellsC]
theorem infoC : (Tryz.prog.info? 85).map (fun i => (i.zero, i.size, i.bytes)) = some (some (.agg #[.int .i64 0, .int .i64 0, .int .i64 0]), 3, 24) := by kernel_rfl
theorem cell_news (w : World) (l : List Value) (t : TypeId) : ∀ j u, l[j]? = some u → (w.alloc (.cells l.toArray t)).cell? ((⟨w.heap.size, 0, none⟩ : Addr).add j) = some u := by
  intro j u hj
  have : ((⟨w.heap.size, 0, none⟩ : Addr).add j) = ⟨w.heap.size, j, none⟩ := by unfold Addr.add; split <;> simp_all
  rw [this, cell_of_row _ w.heap.size j l.toArray t (0, 0) (heap_alloc_new w _)]
  simpa using hj
theorem cellsC_get : ∀ (l : List Ch) (j : Nat), j < l.length * 3 → (cellsC l)[j]? = (encC (l[j / 3]?.getD default))[j % 3]?
  | [], j, h => by simp at h
  | m :: t, j, h => by
    have e : cellsC (m :: t) = encC m ++ cellsC t := rfl
    rw [e]
    by_cases hj : j < 3
    · rw [List.getElem?_append_left (by simpa [encC] using hj), Nat.div_eq_of_lt hj, Nat.mod_eq_of_lt hj]; simp
    · rw [List.getElem?_append_right (by simp [encC]; omega)]
      have h3 : (encC m).length = 3 := rfl
      rw [h3, cellsC_get t (j - 3) (by simp at h; omega), show j / 3 = (j - 3) / 3 + 1 from by omega, show (j - 3) % 3 = j % 3 from by omega]
      simp
/-- A slice of chars. -/
def Cs (W : World) (P : Option Addr) (l : List Ch) : Prop :=
  l ≠ [] → ∃ b off, P = some ⟨b, off, none⟩ ∧ b < W.heap.size ∧ ∀ j (h : j < l.length), W.cell? ⟨b, off + j * 3, none⟩ = some (.int .i64 l[j].1) ∧ W.cell? ⟨b, off + j * 3 + 1, none⟩ = some (.int .i64 (l[j].2.1 : Int)) ∧ W.cell? ⟨b, off + j * 3 + 2, none⟩ = some (.int .i64 (l[j].2.2 : Int))
theorem Cs.step {W W' : World} {P : Option Addr} {l : List Ch} (h : Cs W P l) (hb : Below W.heap.size W W') : Cs W' P l := fun hne => by
  obtain ⟨b, off, e, hbb, hc⟩ := h hne
  have := hb.size
  exact ⟨b, off, e, by omega, fun j hj => ⟨(hb.cell (p := ⟨b, off + j * 3, none⟩) hbb).trans (hc j hj).1, (hb.cell (p := ⟨b, off + j * 3 + 1, none⟩) hbb).trans (hc j hj).2.1, (hb.cell (p := ⟨b, off + j * 3 + 2, none⟩) hbb).trans (hc j hj).2.2⟩⟩
theorem chars_of {W : World} {base : Nat} {v : Value} {l : List Ch} (h : W.ownsRow base 85 3 v l.length (cellsC l)) : ∃ P c, v = .slice P l.length c ∧ Cs W P l := by
  rcases h.2 with ⟨rfl, h0⟩ | ⟨g, cap, cur, rfl, hb, hg, h1, h2, h3, h4⟩
  · exact ⟨none, 0, by rw [h0], fun hne => absurd (List.eq_nil_of_length_eq_zero h0) hne⟩
  · refine ⟨_, cap, rfl, fun _ => ⟨g, 0, rfl, (Array.getElem?_eq_some_iff.1 hg).1, fun j hj => ?_⟩⟩
    have key : ∀ i, i < l.length * 3 → W.cell? ⟨g, i, none⟩ = (cellsC l)[i]? := fun i hi => by
      rw [cell_of_row W g i cur _ _ hg, ← h4, List.getElem?_take_of_lt hi, Array.getElem?_toList]
    have hd : ∀ i, i < 3 → W.cell? ⟨g, 0 + j * 3 + i, none⟩ = (encC l[j])[i]? := fun i hi => by
      rw [key _ (by omega), cellsC_get l _ (by omega), show (0 + j * 3 + i) / 3 = j from by omega, show (0 + j * 3 + i) % 3 = i from by omega, List.getElem?_eq_getElem hj]; rfl
    exact ⟨hd 0 (by omega), hd 1 (by omega), hd 2 (by omega)⟩
def CharsPost (w : World) (l : List Int) (e : Ending) (w' : World) : Prop :=
  ∃ P c, e = .returned (.slice P (chars 0 l).length c) ∧ Cs w' P (chars 0 l) ∧ Below w.heap.size w w'
theorem own_below {W W' : World} {base : Nat} {t : TypeId} {size n : Nat} {v : Value} {xs : List Value} (h : W.ownsRow base t size v n xs) (hb : Below W.heap.size W W') : W'.ownsRow base t size v n xs := by
  obtain ⟨h0, h⟩ := h
  refine ⟨h0, ?_⟩
  rcases h with h | ⟨g, cap, cur, e, hbase, hg, h1, h2, h3, h4⟩
  · exact .inl h
  · exact .inr ⟨g, cap, cur, e, hbase, (hb.block g (Array.getElem?_eq_some_iff.1 hg).1).trans hg, h1, h2, h3, h4⟩
theorem decode_at {W : World} {b off c k : Nat} {l : List Int} (hs : By W (some ⟨b, off, none⟩) l) (_hk : k ≤ l.length) : Calls Tryz.prog 24 #[.slice (some ⟨b, off + k, none⟩) (l.length - k) c] W (DecPost W (l.drop k)) := by
  have := decode_c (c := c) (hs.drop k)
  rwa [List.length_drop] at this

set_option maxRecDepth 100000 in
set_option maxHeartbeats 2000000 in
theorem first_c {W : World} {A : Option Addr} {c : Nat} {l : List Int} (hs : By W A l) (hl : l.length ≤ 1000000) (hlc : l.length ≤ c) : Calls Tryz.prog 17 #[.slice A l.length c] W fun e W' => e = .returned (.int .i64 (first l)) ∧ Below W.heap.size W W' := by
  obtain ⟨w, hwW⟩ : ∃ w, w = W := ⟨_, rfl⟩
  rw [← hwW] at hs ⊢
  clear hwW
  have HS := Lib.hid hs
  clear hs
  go_enter Tryz.func17, Tryz.ntmps17
  go_wp2
  go_loopg [3] l.length (fun g s3 wx => ∃ (k : Nat), k + g = l.length ∧ s3 = .int .i64 k ∧ Hid (first l = firstOf (chars k (l.drop k))) ∧ Below w.heap.size w wx)
  case atStart => exact ⟨0, by omega, rfl, Lib.hid (by simp [first]), Below.refl _ _⟩
  case round =>
    obtain ⟨k, hkg, rfl, HE, hb⟩ := hrel
    by_cases hk : k < l.length
    · have hkz : (k : Int) < (l.length : Int) := by omega
      have hs := HS.out.step hb
      obtain ⟨b, off, rfl, hbb, _⟩ := hs.2 (by intro h; rw [h] at hk; simp at hk)
      have hkl : k ≤ l.length := by omega
      have hkc : ¬ (c = k) := by omega
      have hne : l.drop k ≠ [] := by intro h; have := congrArg List.length h; simp at this; omega
      have hok := dec_ok (hs.1.drop k) hne
      have hst := chars_step (hs.1.drop k) hne k
      unfold DecOk at hok
      rw [List.length_drop] at hok
      have HST := Lib.hid hst
      have hdc := decode_at (c := c - k) (k := k) hs hkl
      have HDC := Lib.hid hdc
      clear hst hs hne hdc
      go_wp2_with fail
      refine HDC.out.mono ?_
      rintro e w1 ⟨rfl, b1⟩
      unfold decV
      obtain ⟨p, hp⟩ : ∃ p, dec (l.drop k) = p := ⟨_, rfl⟩
      rw [hp] at HST hok ⊢
      obtain ⟨r, n⟩ := p
      dsimp only at *
      have hn1 := hok.1
      have hn2 := hok.2.1
      have hb1 := hb.trans (b1.mono hb.size)
      rcases hok.2.2 with hr | hr
      · have hr1 := hr.1
        subst hr1
        have HF : Hid (first l = k) := Lib.hid (by rw [HE.out, HST.out, firstOf_bad (by simp)])
        clear hok hb b1 HDC hr hp
        go_wp2
        go_ret
        refine ⟨?_, hb1⟩
        rw [HF.out]; rfl
      · have hr0 : 0 ≤ r := by have := hr.1; unfold Sc at this; omega
        have hr1 : (r == -1) = false := by rw [beq_eq_false_iff_ne]; omega
        have HF : Hid (first l = firstOf (chars (k + n) (l.drop (k + n)))) := Lib.hid (by rw [HE.out, HST.out, firstOf_good (by simpa using hr0), List.drop_drop])
        clear hok hb b1 HDC hr hp
        go_wp2
        go_roundg (gk - n)
        case measure => omega
        case rel => exact ⟨k + n, by omega, by go_num, HF, hb1⟩
    · have hkz : ¬ ((k : Int) < (l.length : Int)) := by omega
      have hfin : first l = -1 := by rw [HE.out, show l.drop k = [] from List.drop_eq_nil_of_le (by omega), chars_nil]; rfl
      have HF := Lib.hid hfin
      clear hfin
      go_wp2
      go_ret
      refine ⟨?_, hb⟩
      rw [HF.out]; rfl
end Go.Proofs.YtahgljglleeloaaGreatDoor.U
