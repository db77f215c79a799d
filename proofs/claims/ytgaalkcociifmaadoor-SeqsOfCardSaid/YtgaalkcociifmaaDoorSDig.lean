/- Plain mathematics of layer 3: what a piece's row takes, and how many rows of bytes it has. -/
import Derived.Test.YtgaalkcociifmaaDoorSRange
import Derived.Test.YtgaalkcociifmaaDoorUOrder
namespace Go.Proofs.YtgaalkcociifmaaDoor
open SeqM
open U.UtfM (enc enc1 enc2 enc3 enc4)

theorem cutK_none {m a b : Int} (h : cutK m a b = none) : a / m = b / m ∨ (a % m = 0 ∧ b % m = m - 1) := by
  unfold cutK at h
  split at h
  · exact .inl ‹_›
  · split at h
    · cases h
    · split at h
      · cases h
      · exact .inr ⟨by omega, by omega⟩
theorem cutFrom_none_head {k : Nat} {m a b : Int} (h : cutFrom (k + 1) m a b = none) : cutK (m * 64) a b = none ∧ cutFrom k (m * 64) a b = none := by
  unfold cutFrom at h
  split at h
  · cases h
  · exact ⟨‹_›, h⟩
theorem leaf2 {a b : Int} (h : cutAt 2 a b = none) : a / 64 = b / 64 ∨ (a % 64 = 0 ∧ b % 64 = 63) := by
  obtain ⟨h1, _⟩ := cutFrom_none_head (k := 0) h
  exact cutK_none h1
theorem leaf3 {a b : Int} (h : cutAt 3 a b = none) : (a / 64 = b / 64 ∨ (a % 64 = 0 ∧ b % 64 = 63)) ∧ (a / 4096 = b / 4096 ∨ (a % 4096 = 0 ∧ b % 4096 = 4095)) := by
  obtain ⟨h1, h2⟩ := cutFrom_none_head (k := 1) h
  obtain ⟨h2, _⟩ := cutFrom_none_head (k := 0) h2
  exact ⟨cutK_none h1, cutK_none h2⟩
theorem leaf4 {a b : Int} (h : cutAt 4 a b = none) : (a / 64 = b / 64 ∨ (a % 64 = 0 ∧ b % 64 = 63)) ∧ (a / 4096 = b / 4096 ∨ (a % 4096 = 0 ∧ b % 4096 = 4095)) ∧ (a / 262144 = b / 262144 ∨ (a % 262144 = 0 ∧ b % 262144 = 262143)) := by
  obtain ⟨h1, h2⟩ := cutFrom_none_head (k := 2) h
  obtain ⟨h2, h3⟩ := cutFrom_none_head (k := 1) h2
  obtain ⟨h3, _⟩ := cutFrom_none_head (k := 0) h3
  exact ⟨cutK_none h1, cutK_none h2, cutK_none h3⟩
theorem wd_eq {x y k : Int} (h : y - x + 1 = k) (hk : 0 ≤ k) : wd (x, y) = k := by unfold wd; simp only; omega
theorem prod4 (a b c d : Rg) : prodR [a, b, c, d] = wd a * wd b * wd c * wd d := by simp [prodR]
theorem prod3 (a b c : Rg) : prodR [a, b, c] = wd a * wd b * wd c := by simp [prodR]
theorem prod2 (a b : Rg) : prodR [a, b] = wd a * wd b := by simp [prodR]
theorem prod1 (a : Rg) : prodR [a] = wd a := by simp [prodR]
theorem fits_cons (a : Rg) (t : List Rg) (x : Int) (u : List Int) : fits (a :: t) (x :: u) = true ↔ (a.1 ≤ x ∧ x ≤ a.2) ∧ fits t u = true := by simp [fits]
theorem fits_nil2 : fits [] [] = true := rfl

/-- Digits to the base of 64. -/
structure Dig (a d3 d2 d1 d0 : Int) : Prop where
  eq : a = d3 * 262144 + d2 * 4096 + d1 * 64 + d0
  z : 0 ≤ d0 ∧ d0 < 64
  o : 0 ≤ d1 ∧ d1 < 64
  t : 0 ≤ d2 ∧ d2 < 64
  h : 0 ≤ d3
theorem Dig.at {a d3 d2 d1 d0 : Int} (h : Dig a d3 d2 d1 d0) : a / 262144 = d3 ∧ a / 4096 % 64 = d2 ∧ a / 64 % 64 = d1 ∧ a % 64 = d0 := by
  obtain ⟨rfl, h0, h1, h2, h3⟩ := h
  refine ⟨by omega, ?_, ?_, by omega⟩
  · rw [show (d3 * 262144 + d2 * 4096 + d1 * 64 + d0) / 4096 = d3 * 64 + d2 by omega]; omega
  · rw [show (d3 * 262144 + d2 * 4096 + d1 * 64 + d0) / 64 = d3 * 4096 + d2 * 64 + d1 by omega]; omega
theorem dig_of {a : Int} (h : 0 ≤ a) : Dig a (a / 262144) (a / 4096 % 64) (a / 64 % 64) (a % 64) := by
  refine ⟨?_, by omega, by omega, by omega, by omega⟩
  have e1 : a = (a / 64) * 64 + a % 64 := by omega
  have e2 : a / 64 = (a / 4096) * 64 + a / 64 % 64 := by omega
  have e3 : a / 4096 = (a / 262144) * 64 + a / 4096 % 64 := by omega
  omega
/-- How two numbers' digits stand when nothing is cut at a block. -/
theorem blk1 {a b a3 a2 a1 a0 b3 b2 b1 b0 : Int} (ha : Dig a a3 a2 a1 a0) (hb : Dig b b3 b2 b1 b0) (h : a / 64 = b / 64 ∨ (a % 64 = 0 ∧ b % 64 = 63)) : (a3 = b3 ∧ a2 = b2 ∧ a1 = b1) ∨ (a0 = 0 ∧ b0 = 63) := by
  obtain ⟨rfl, _, _, _, _⟩ := ha
  obtain ⟨rfl, _, _, _, _⟩ := hb
  rcases h with h | h
  · left
    rw [show (a3 * 262144 + a2 * 4096 + a1 * 64 + a0) / 64 = a3 * 4096 + a2 * 64 + a1 by omega, show (b3 * 262144 + b2 * 4096 + b1 * 64 + b0) / 64 = b3 * 4096 + b2 * 64 + b1 by omega] at h
    omega
  · right; omega
theorem blk2 {a b a3 a2 a1 a0 b3 b2 b1 b0 : Int} (ha : Dig a a3 a2 a1 a0) (hb : Dig b b3 b2 b1 b0) (h : a / 4096 = b / 4096 ∨ (a % 4096 = 0 ∧ b % 4096 = 4095)) : (a3 = b3 ∧ a2 = b2) ∨ (a1 = 0 ∧ b1 = 63) := by
  obtain ⟨rfl, _, _, _, _⟩ := ha
  obtain ⟨rfl, _, _, _, _⟩ := hb
  rcases h with h | h
  · left
    rw [show (a3 * 262144 + a2 * 4096 + a1 * 64 + a0) / 4096 = a3 * 64 + a2 by omega, show (b3 * 262144 + b2 * 4096 + b1 * 64 + b0) / 4096 = b3 * 64 + b2 by omega] at h
    omega
  · right
    rw [show (a3 * 262144 + a2 * 4096 + a1 * 64 + a0) % 4096 = a1 * 64 + a0 by omega, show (b3 * 262144 + b2 * 4096 + b1 * 64 + b0) % 4096 = b1 * 64 + b0 by omega] at h
    omega
theorem blk3 {a b a3 a2 a1 a0 b3 b2 b1 b0 : Int} (ha : Dig a a3 a2 a1 a0) (hb : Dig b b3 b2 b1 b0) (h : a / 262144 = b / 262144 ∨ (a % 262144 = 0 ∧ b % 262144 = 262143)) : a3 = b3 ∨ (a2 = 0 ∧ b2 = 63) := by
  obtain ⟨rfl, _, _, _, _⟩ := ha
  obtain ⟨rfl, _, _, _, _⟩ := hb
  rcases h with h | h
  · left
    rw [show (a3 * 262144 + a2 * 4096 + a1 * 64 + a0) / 262144 = a3 by omega, show (b3 * 262144 + b2 * 4096 + b1 * 64 + b0) / 262144 = b3 by omega] at h
    exact h
  · right
    rw [show (a3 * 262144 + a2 * 4096 + a1 * 64 + a0) % 262144 = a2 * 4096 + a1 * 64 + a0 by omega, show (b3 * 262144 + b2 * 4096 + b1 * 64 + b0) % 262144 = b2 * 4096 + b1 * 64 + b0 by omega] at h
    omega
/-- A piece's ends: at one place any digits, ahead of it the same, behind it the first and the last. -/
inductive Ends4 : Int → Int → Int → Int → Int → Int → Int → Int → Prop
  | p0 (d3 d2 d1 a0 b0 : Int) : Ends4 d3 d2 d1 a0 d3 d2 d1 b0
  | p1 (d3 d2 a1 b1 : Int) : Ends4 d3 d2 a1 0 d3 d2 b1 63
  | p2 (d3 a2 b2 : Int) : Ends4 d3 a2 0 0 d3 b2 63 63
  | p3 (a3 b3 : Int) : Ends4 a3 0 0 0 b3 63 63 63
theorem ends_of {a3 a2 a1 a0 b3 b2 b1 b0 : Int} (h1 : (a3 = b3 ∧ a2 = b2 ∧ a1 = b1) ∨ (a0 = 0 ∧ b0 = 63)) (h2 : (a3 = b3 ∧ a2 = b2) ∨ (a1 = 0 ∧ b1 = 63)) (h3 : a3 = b3 ∨ (a2 = 0 ∧ b2 = 63)) : Ends4 a3 a2 a1 a0 b3 b2 b1 b0 := by
  rcases h1 with ⟨rfl, rfl, rfl⟩ | ⟨rfl, rfl⟩
  · exact .p0 _ _ _ _ _
  · rcases h2 with ⟨rfl, rfl⟩ | ⟨rfl, rfl⟩
    · exact .p1 _ _ _ _
    · rcases h3 with rfl | ⟨rfl, rfl⟩
      · exact .p2 _ _ _
      · exact .p3 _ _
theorem between {a b r a3 a2 a1 a0 b3 b2 b1 b0 r3 r2 r1 r0 : Int} (ha : Dig a a3 a2 a1 a0) (hb : Dig b b3 b2 b1 b0) (hr : Dig r r3 r2 r1 r0) (h : Ends4 a3 a2 a1 a0 b3 b2 b1 b0) :
    (a ≤ r ∧ r ≤ b) ↔ (a3 ≤ r3 ∧ r3 ≤ b3) ∧ (a2 ≤ r2 ∧ r2 ≤ b2) ∧ (a1 ≤ r1 ∧ r1 ≤ b1) ∧ (a0 ≤ r0 ∧ r0 ≤ b0) := by
  obtain ⟨rfl, ⟨_, _⟩, ⟨_, _⟩, ⟨_, _⟩, _⟩ := ha
  obtain ⟨rfl, ⟨_, _⟩, ⟨_, _⟩, ⟨_, _⟩, _⟩ := hb
  obtain ⟨rfl, ⟨_, _⟩, ⟨_, _⟩, ⟨_, _⟩, _⟩ := hr
  cases h
  · constructor
    · intro ⟨h1, h2⟩
      have e3 : r3 = a3 := by omega
      subst e3
      have e2 : r2 = a2 := by omega
      subst e2
      have e1 : r1 = a1 := by omega
      subst e1
      omega
    · intro h; omega
  · constructor
    · intro ⟨h1, h2⟩
      have e3 : r3 = a3 := by omega
      subst e3
      have e2 : r2 = a2 := by omega
      subst e2
      omega
    · intro h; omega
  · constructor
    · intro ⟨h1, h2⟩
      have e3 : r3 = a3 := by omega
      subst e3
      omega
    · intro h; omega
  · constructor
    · intro ⟨h1, h2⟩; omega
    · intro h; omega
theorem width4 {a b a3 a2 a1 a0 b3 b2 b1 b0 : Int} (ha : Dig a a3 a2 a1 a0) (hb : Dig b b3 b2 b1 b0) (hab : a ≤ b) (h : Ends4 a3 a2 a1 a0 b3 b2 b1 b0) (k3 k2 k1 k0 : Int) :
    wd (k3 + a3, k3 + b3) * wd (k2 + a2, k2 + b2) * wd (k1 + a1, k1 + b1) * wd (k0 + a0, k0 + b0) = b - a + 1 := by
  obtain ⟨rfl, ⟨_, _⟩, ⟨_, _⟩, ⟨_, _⟩, _⟩ := ha
  obtain ⟨rfl, ⟨_, _⟩, ⟨_, _⟩, ⟨_, _⟩, _⟩ := hb
  cases h
  · rw [wd_eq (k := 1) (by omega) (by omega), wd_eq (k := 1) (by omega) (by omega), wd_eq (k := 1) (by omega) (by omega), wd_eq (k := b0 - a0 + 1) (by omega) (by omega)]; omega
  · rw [wd_eq (k := 1) (by omega) (by omega), wd_eq (k := 1) (by omega) (by omega), wd_eq (k := b1 - a1 + 1) (by omega) (by omega), wd_eq (k := 64) (by omega) (by omega)]; omega
  · rw [wd_eq (k := 1) (by omega) (by omega), wd_eq (k := b2 - a2 + 1) (by omega) (by omega), wd_eq (k := 64) (by omega) (by omega), wd_eq (k := 64) (by omega) (by omega)]; omega
  · rw [wd_eq (k := b3 - a3 + 1) (by omega) (by omega), wd_eq (k := 64) (by omega) (by omega), wd_eq (k := 64) (by omega) (by omega), wd_eq (k := 64) (by omega) (by omega)]; omega
end Go.Proofs.YtgaalkcociifmaaDoor
