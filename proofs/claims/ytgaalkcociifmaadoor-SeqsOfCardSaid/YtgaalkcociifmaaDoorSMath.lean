/- Plain mathematics of layer 3: how a part is cut into rows of ranges of bytes. -/
import Derived.Test.YtgaalkcociifmaaDoorUMath
import Derived.Test.YtgaalkcociifmaaDoorMath
namespace Go.Proofs.YtgaalkcociifmaaDoor.SeqM
open U.UtfM (enc enc1 enc2 enc3 enc4)

abbrev Rg := Int × Int
abbrev Sp := Int × Int
/-- Where a part is cut by blocks of m. -/
def cutK (m a b : Int) : Option Int :=
  if a / m = b / m then none
  else if a % m ≠ 0 then some ((a / m + 1) * m)
  else if b % m ≠ m - 1 then some (b / m * m)
  else none
def cutFrom : Nat → Int → Int → Int → Option Int
  | 0, _, _, _ => none
  | k + 1, m, a, b => match cutK (m * 64) a b with
    | some x => some x
    | none => cutFrom k (m * 64) a b
def cutAt (n : Nat) (a b : Int) : Option Int := cutFrom (n - 1) 1 a b

theorem cutK_in {m a b x : Int} (hm : 0 < m) (hab : a ≤ b) (h : cutK m a b = some x) : a < x ∧ x ≤ b := by
  unfold cutK at h
  have e1 := Int.mul_ediv_add_emod a m
  have e2 := Int.mul_ediv_add_emod b m
  have r1 := Int.emod_nonneg a (show m ≠ 0 by omega)
  have r2 := Int.emod_nonneg b (show m ≠ 0 by omega)
  have s1 := Int.emod_lt_of_pos a hm
  have s2 := Int.emod_lt_of_pos b hm
  have hq : a / m ≤ b / m := Int.ediv_le_ediv hm hab
  generalize a / m = q at *
  generalize b / m = p at *
  generalize a % m = r at *
  generalize b % m = s at *
  split at h
  · cases h
  · rename_i hne
    have hlt : q + 1 ≤ p := by omega
    have hmul : m * (q + 1) ≤ m * p := Int.mul_le_mul_of_nonneg_left hlt (by omega)
    rw [Int.mul_add, Int.mul_one] at hmul
    split at h
    · cases h
      rw [Int.add_mul, Int.one_mul, Int.mul_comm q m]
      omega
    · split at h
      · cases h
        rw [Int.mul_comm p m]
        omega
      · cases h
theorem cutFrom_in : ∀ (k : Nat) {m a b x : Int}, 0 < m → a ≤ b → cutFrom k m a b = some x → a < x ∧ x ≤ b
  | 0, _, _, _, _, _, _, h => by cases h
  | k + 1, m, a, b, x, hm, hab, h => by
    unfold cutFrom at h
    split at h
    · rename_i y hy
      cases h
      exact cutK_in (by omega) hab hy
    · exact cutFrom_in k (by omega) hab h
theorem cutAt_in {n : Nat} {a b x : Int} (hab : a ≤ b) (h : cutAt n a b = some x) : a < x ∧ x ≤ b := cutFrom_in _ (by omega) hab h

/-- The rows of a part. -/
def rows (n : Nat) (a b : Int) : List (List Rg) :=
  match cutAt n a b with
  | none => [(enc a).zip (enc b)]
  | some x => if _h : a < x ∧ x ≤ b then rows n a (x - 1) ++ rows n x b else []
termination_by (b - a).toNat
decreasing_by all_goals omega
theorem rows_none {n : Nat} {a b : Int} (h : cutAt n a b = none) : rows n a b = [(enc a).zip (enc b)] := by rw [rows, h]
theorem rows_some {n : Nat} {a b x : Int} (hab : a ≤ b) (h : cutAt n a b = some x) : rows n a b = rows n a (x - 1) ++ rows n x b := by
  rw [rows, h]; simp only []; rw [dif_pos (cutAt_in hab h)]

/-- The scalars of n + 1 bytes. -/
def bnd : Nat → Sp
  | 0 => (0, 127)
  | 1 => (128, 2047)
  | 2 => (2048, 65535)
  | _ => (65536, 1114111)
/-- A part: so many bytes, its ends; scalars alone. -/
def Good (p : Nat × Sp) : Prop := 1 ≤ p.1 ∧ p.1 ≤ 4 ∧ (bnd (p.1 - 1)).1 ≤ p.2.1 ∧ p.2.1 ≤ p.2.2 ∧ p.2.2 ≤ (bnd (p.1 - 1)).2 ∧ (p.2.2 ≤ 55295 ∨ 57344 ≤ p.2.1)
theorem good_cases {n : Nat} {a b : Int} (h : Good (n, a, b)) : a ≤ b ∧ (b ≤ 55295 ∨ 57344 ≤ a) ∧ ((n = 1 ∧ 0 ≤ a ∧ b ≤ 127) ∨ (n = 2 ∧ 128 ≤ a ∧ b ≤ 2047) ∨ (n = 3 ∧ 2048 ≤ a ∧ b ≤ 65535) ∨ (n = 4 ∧ 65536 ≤ a ∧ b ≤ 1114111)) := by
  obtain ⟨h1, h2, h3, h4, h5, h6⟩ := h
  simp only at *
  refine ⟨h4, h6, ?_⟩
  match n, h1, h2 with
  | 1, _, _ => simp [bnd] at h3 h5; omega
  | 2, _, _ => simp [bnd] at h3 h5; omega
  | 3, _, _ => simp [bnd] at h3 h5; omega
  | 4, _, _ => simp [bnd] at h3 h5; omega
theorem Good.cut {n : Nat} {a b a' b' : Int} (h : Good (n, a, b)) (h1 : a ≤ a') (h2 : a' ≤ b') (h3 : b' ≤ b) : Good (n, a', b') := by
  obtain ⟨g1, g2, g3, g4, g5, g6⟩ := h
  simp only at *
  exact ⟨g1, g2, by simp only; omega, h2, by simp only; omega, by simp only; omega⟩
theorem Good.in {n : Nat} {a b : Int} (h : Good (n, a, b)) : 0 ≤ a ∧ a ≤ b ∧ b ≤ 1114111 := by
  have := good_cases h; omega
theorem Good.sc {n : Nat} {a b r : Int} (h : Good (n, a, b)) (h1 : a ≤ r) (h2 : r ≤ b) : U.UtfM.Sc r := by
  have := good_cases h; unfold U.UtfM.Sc; omega
theorem Good.len {n : Nat} {a b r : Int} (h : Good (n, a, b)) (h1 : a ≤ r) (h2 : r ≤ b) : (enc r).length = n := by
  have hs := h.sc h1 h2
  rcases (good_cases h).2.2 with ⟨rfl, h3, h4⟩ | ⟨rfl, h3, h4⟩ | ⟨rfl, h3, h4⟩ | ⟨rfl, h3, h4⟩
  · rw [enc1 hs (by omega)]; rfl
  · rw [enc2 hs (by omega) (by omega)]; rfl
  · rw [enc3 hs (by omega) (by omega)]; rfl
  · rw [enc4 hs (by omega)]; rfl

/-- One span's piece of k + 1 bytes. -/
def pieceAt (s : Sp) (k : Nat) : List (Nat × Sp) := if max s.1 (bnd k).1 ≤ min s.2 (bnd k).2 then [(k + 1, (max s.1 (bnd k).1, min s.2 (bnd k).2))] else []
def partsTo (s : Sp) (k : Nat) : List (Nat × Sp) := (List.range k).flatMap (pieceAt s)
def partsOf (s : Sp) : List (Nat × Sp) := partsTo s 4
def parts (l : List Sp) : List (Nat × Sp) := l.flatMap partsOf
/-- All rows of a normal list. -/
def rowsP (p : List (Nat × Sp)) : List (List Rg) := p.flatMap (fun q => rows q.1 q.2.1 q.2.2)
def rowsOf (l : List Sp) : List (List Rg) := rowsP (parts l)
theorem partsTo_zero (s : Sp) : partsTo s 0 = [] := rfl
theorem partsTo_succ (s : Sp) (k : Nat) : partsTo s (k + 1) = partsTo s k ++ pieceAt s k := by
  unfold partsTo; rw [List.range_succ, List.flatMap_append]; simp
theorem rowsP_append (p q : List (Nat × Sp)) : rowsP (p ++ q) = rowsP p ++ rowsP q := by unfold rowsP; rw [List.flatMap_append]
theorem rowsP_nil : rowsP [] = [] := rfl
theorem rowsP_cons (q : Nat × Sp) (p : List (Nat × Sp)) : rowsP (q :: p) = rows q.1 q.2.1 q.2.2 ++ rowsP p := by unfold rowsP; rw [List.flatMap_cons]
theorem parts_append (l m : List Sp) : parts (l ++ m) = parts l ++ parts m := by unfold parts; rw [List.flatMap_append]
theorem rowsOf_nil : rowsOf [] = [] := rfl

/-- A span of scalars alone. -/
def Scal (s : Sp) : Prop := 0 ≤ s.1 ∧ s.1 ≤ s.2 ∧ s.2 ≤ 1114111 ∧ (s.2 ≤ 55295 ∨ 57344 ≤ s.1)
theorem good_pieceAt {s : Sp} (hs : Scal s) {k : Nat} (hk : k < 4) {q : Nat × Sp} (h : q ∈ pieceAt s k) : Good q := by
  unfold pieceAt at h
  split at h
  · rename_i hle
    simp at h
    subst h
    obtain ⟨h1, h2, h3, h4⟩ := hs
    refine ⟨by simp, by simp; omega, ?_, hle, ?_, ?_⟩
    · simp; omega
    · simp; omega
    · simp only; omega
  · simp at h
theorem good_partsTo {s : Sp} (hs : Scal s) : ∀ (k : Nat), k ≤ 4 → ∀ q ∈ partsTo s k, Good q
  | 0, _, q, h => by simp [partsTo] at h
  | k + 1, hk, q, h => by
    rw [partsTo_succ, List.mem_append] at h
    rcases h with h | h
    · exact good_partsTo hs k (by omega) q h
    · exact good_pieceAt hs (by omega) h
theorem good_parts {l : List Sp} (h : ∀ s ∈ l, Scal s) : ∀ q ∈ parts l, Good q := fun q hq => by
  unfold parts at hq
  rw [List.mem_flatMap] at hq
  obtain ⟨s, hs, hq⟩ := hq
  exact good_partsTo (h s hs) 4 (Nat.le_refl _) q hq
end Go.Proofs.YtgaalkcociifmaaDoor.SeqM
